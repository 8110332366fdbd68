import Derived.Test.YtnfohlabmidliaaRows
import Derived.Test.YtnfohlabmidliaaGaa
import Derived.WalkKit
import Derived.ProofKit
import Derived.OpenShut
import Derived.ShutString
import Derived.ChangeOld
import Derived.Below
import Derived.Laws.IdiomArrays
import Derived.Test.YtnfohlabmidliaaGab
import Derived.Deep.CutRange
import Derived.RegionTactic
import Derived.Deep.CutBlock
import Derived.Deep.Slices
import Derived.Deep.Fields
import Derived.ChangeSame
import Derived.Lib.SmallJoins
/-
  What the rows' proofs share: an argument that is a slice of bytes, opened.
-/
namespace Go.Proofs.Ytnfohlabmidliaa
open Go.ChangeShapes Go.WideShapes Go.ChangeAt Go.RowKit

theorem own : ownKnob Try.prog.godebug = none := by kernel_rfl
theorem laidOut : laidOutB Try.prog = true := by kernel_rfl

theorem wf_u8 {z : Int} (h : (Lit.int .u8 z).wf = true) : 0 ≤ z ∧ z < 256 := by
  simp [Lit.wf, IntKind.min, IntKind.max, IntKind.bits, IntKind.signed] at h
  omega
theorem wf_u32 {z : Int} (h : (Lit.int .u32 z).wf = true) : 0 ≤ z ∧ z < 4294967296 := by
  simp [Lit.wf, IntKind.min, IntKind.max, IntKind.bits, IntKind.signed] at h
  omega
theorem wf_u64 {z : Int} (h : (Lit.int .u64 z).wf = true) : 0 ≤ z ∧ z < 18446744073709551616 := by
  simp [Lit.wf, IntKind.min, IntKind.max, IntKind.bits, IntKind.signed] at h
  omega
theorem wf_i64 {z : Int} (h : (Lit.int .i64 z).wf = true) : -9223372036854775808 ≤ z ∧ z < 9223372036854775808 := by
  simp [Lit.wf, IntKind.min, IntKind.max, IntKind.bits, IntKind.signed] at h
  omega

/-- A slice of bytes that came in. -/
theorem came_bytes {W : World} {a : Addr} {n c : Nat} {zs : List Int} (hn : n ≤ c) (hz : zs.length = c) (hcell : ∀ i, i < zs.length → W.cell? (a.add i) = some (.int .u8 (zs.getD i 0))) (hw : ∀ z ∈ zs, (Lit.int .u8 z).wf = true) :
    ∃ l : List UInt8, Bytes W W.heap.size (some a) n l := by
  refine ⟨(zs.take n).map fun z => UInt8.ofNat z.toNat, by simp; omega, fun hn0 => ?_⟩
  obtain ⟨b, off, spot⟩ := a
  have hc0 := hcell 0 (by omega)
  have hspot : spot = none := by simpa [Addr.add] using World.cell?_spot hc0
  subst hspot
  have hlt : b < W.heap.size := World.block_lt_of_cell? W _ (by simpa [Addr.add] using hc0)
  refine ⟨b, off, rfl, hlt, fun j u hu => ?_⟩
  simp only [List.map_map, List.getElem?_map, Option.map_eq_some_iff] at hu
  obtain ⟨z, hz1, rfl⟩ := hu
  rw [List.getElem?_take] at hz1
  split at hz1
  · have hj : j < zs.length := (List.getElem?_eq_some_iff.1 hz1).1
    have hcj := hcell j hj
    rw [addr_add] at hcj
    rw [hcj, List.getD_eq_getElem?_getD, hz1]
    have := wf_u8 (hw z (List.mem_of_getElem? hz1))
    simp [bv]
    omega
  · cases hz1

/-- An array of four bytes, by value. -/
theorem list4 {α : Type} (l : List α) (h : (⟨l⟩ : Array α).size = 4) : ∃ a b c d, l = [a, b, c, d] := by
  match l, h with
  | [a, b, c, d], _ => exact ⟨a, b, c, d, rfl⟩
theorem bv_of {z : Int} (h : (Lit.int .u8 z).wf = true) : ∃ x : UInt8, Value.int .u8 z = bv x := by
  have := wf_u8 h
  refine ⟨UInt8.ofNat z.toNat, ?_⟩
  unfold bv
  rw [UInt8.toNat_ofNat']
  congr 1
  omega
theorem came_arr4 {H : Type} {enc : TypeId × Value → H} {P : Program} {w W : World} {base b0 : Nat} {spare : Nat → Bool} {held : Bool} {r : Reach} {t e : TypeId} {v : Value} {d : DataW H} {p : List MemPlace}
    (ht : P.underlying t = some (.array 4 e)) (he : P.underlying e = some (.int .u8)) (hce : P.cellsOf e = 1) (hct : P.cellsOf t = 4)
    (hv : Value.okWide P W r b0 t v) (h : DataW.Trod enc P w base spare held t v d p) : ∃ x0 x1 x2 x3 : UInt8, v = .agg #[bv x0, bv x1, bv x2, bv x3] := by
  obtain ⟨cs, rfl, hsz, _⟩ : ∃ cs, v = .agg cs ∧ cs.size = P.cellsOf t ∧ Row.okWide P W r b0 t cs := by
    simpa [Value.okWide, ht] using hv
  rw [hct] at hsz
  obtain ⟨l⟩ := cs
  obtain ⟨c0, c1, c2, c3, rfl⟩ := list4 l hsz
  obtain ⟨fuel, hf⟩ := h
  obtain ⟨y0, y1, y2, y3, m, hx, hy0, hy1, hy2, hy3⟩ := trod_array4 ht hce hf
  obtain ⟨x0, e0, rfl, w0⟩ := DataW.trod_int he hy0
  obtain ⟨x1, e1, rfl, w1⟩ := DataW.trod_int he hy1
  obtain ⟨x2, e2, rfl, w2⟩ := DataW.trod_int he hy2
  obtain ⟨x3, e3, rfl, w3⟩ := DataW.trod_int he hy3
  simp at e0 e1 e2 e3
  subst e0 e1 e2 e3
  obtain ⟨a0, h0⟩ := bv_of w0
  obtain ⟨a1, h1⟩ := bv_of w1
  obtain ⟨a2, h2⟩ := bv_of w2
  obtain ⟨a3, h3⟩ := bv_of w3
  exact ⟨a0, a1, a2, a3, by rw [h0, h1, h2, h3]⟩
end Go.Proofs.Ytnfohlabmidliaa
/-
  Layer 13: the reduction of one row.
-/
namespace Go.Proofs.Ytnfohlabmidliaa
open Go.RowKit
attribute [local go_sem ↓] Go.wp_at_zero Go.wp_at_succ

theorem new_frozen {w w1 : World} {C : Array Value} {t : TypeId} (hb : Below (w.alloc (.cells C t)).heap.size (w.alloc (.cells C t)) w1) (k : Nat) : w1.frozen? ⟨w.heap.size, k, none⟩ = false := by
  rw [hb.frozen (p := ⟨w.heap.size, k, none⟩) (by simp)]
  go_simp
/-- The six cells of a new variable, in a later world. -/
theorem six_new {w w1 : World} {a b c d e f : Value} {t : TypeId} {g : Nat} (hg : w.heap.size = g) (hb : Below (w.alloc (.cells #[a, b, c, d, e, f] t)).heap.size (w.alloc (.cells #[a, b, c, d, e, f] t)) w1) :
    (w1.cell? ⟨g, 0, none⟩ = some a ∧ w1.cell? ⟨g, 1, none⟩ = some b ∧ w1.cell? ⟨g, 2, none⟩ = some c ∧ w1.cell? ⟨g, 3, none⟩ = some d ∧ w1.cell? ⟨g, 4, none⟩ = some e ∧ w1.cell? ⟨g, 5, none⟩ = some f) ∧
    (w1.frozen? ⟨g, 0, none⟩ = false ∧ w1.frozen? ⟨g, 1, none⟩ = false ∧ w1.frozen? ⟨g, 2, none⟩ = false ∧ w1.frozen? ⟨g, 3, none⟩ = false ∧ w1.frozen? ⟨g, 4, none⟩ = false ∧ w1.frozen? ⟨g, 5, none⟩ = false) := by
  subst hg
  exact ⟨⟨mnew_later hb 0 rfl, mnew_later hb 1 rfl, mnew_later hb 2 rfl, mnew_later hb 3 rfl, mnew_later hb 4 rfl, mnew_later hb 5 rfl⟩, new_frozen hb 0, new_frozen hb 1, new_frozen hb 2, new_frozen hb 3, new_frozen hb 4, new_frozen hb 5⟩
/-- Six cells of a variable of one's own. -/
def Six (w : World) (g : Nat) (a b c d e f : Value) : Prop :=
    (w.cell? ⟨g, 0, none⟩ = some a ∧ w.cell? ⟨g, 1, none⟩ = some b ∧ w.cell? ⟨g, 2, none⟩ = some c ∧ w.cell? ⟨g, 3, none⟩ = some d ∧ w.cell? ⟨g, 4, none⟩ = some e ∧ w.cell? ⟨g, 5, none⟩ = some f) ∧
    (w.frozen? ⟨g, 0, none⟩ = false ∧ w.frozen? ⟨g, 1, none⟩ = false ∧ w.frozen? ⟨g, 2, none⟩ = false ∧ w.frozen? ⟨g, 3, none⟩ = false ∧ w.frozen? ⟨g, 4, none⟩ = false ∧ w.frozen? ⟨g, 5, none⟩ = false)
theorem Six.alloc {w : World} {g : Nat} {a b c d e f : Value} (o : Obj) (h : Six w g a b c d e f) : Six (w.alloc o) g a b c d e f := by
  obtain ⟨⟨r0, r1, r2, r3, r4, r5⟩, f0, f1, f2, f3, f4, f5⟩ := h
  exact ⟨⟨cell_keep r0 o, cell_keep r1 o, cell_keep r2 o, cell_keep r3 o, cell_keep r4 o, cell_keep r5 o⟩, (frozen_keep r0 o).trans f0, (frozen_keep r1 o).trans f1, (frozen_keep r2 o).trans f2, (frozen_keep r3 o).trans f3, (frozen_keep r4 o).trans f4, (frozen_keep r5 o).trans f5⟩
theorem Six.below {w w1 : World} {g B : Nat} {a b c d e f : Value} (h : Six w g a b c d e f) (hb : Below B w w1) (hB : B = w.heap.size) : Six w1 g a b c d e f := by
  subst hB
  obtain ⟨⟨r0, r1, r2, r3, r4, r5⟩, f0, f1, f2, f3, f4, f5⟩ := h
  exact ⟨⟨mkept_later hb r0, mkept_later hb r1, mkept_later hb r2, mkept_later hb r3, mkept_later hb r4, mkept_later hb r5⟩, (hb.frozen (World.block_lt_of_cell? w _ r0)).trans f0, (hb.frozen (World.block_lt_of_cell? w _ r1)).trans f1, (hb.frozen (World.block_lt_of_cell? w _ r2)).trans f2, (hb.frozen (World.block_lt_of_cell? w _ r3)).trans f3, (hb.frozen (World.block_lt_of_cell? w _ r4)).trans f4, (hb.frozen (World.block_lt_of_cell? w _ r5)).trans f5⟩
theorem Six.new (w : World) (a b c d e f : Value) (t : TypeId) : Six (w.alloc (.cells #[a, b, c, d, e, f] t)) w.heap.size a b c d e f := six_new rfl (Below.refl _ _)
theorem below_set6 {B g : Nat} {w w1 : World} {a b c d e f : Value} (h : Below B w w1) (hg : B ≤ g) : Below B w ((((((w1.setCell ⟨g, 0, none⟩ a).setCell ⟨g, 1, none⟩ b).setCell ⟨g, 2, none⟩ c).setCell ⟨g, 3, none⟩ d).setCell ⟨g, 4, none⟩ e).setCell ⟨g, 5, none⟩ f) :=
  (((((h.setCell hg a).setCell hg b).setCell hg c).setCell hg d).setCell hg e).setCell hg f
/-- A row. -/
def itemV (A1 : Option Addr) (n1 c1 : Nat) (A2 : Option Addr) (n2 c2 : Nat) (b : Bool) (n : Int) : Value := .agg #[.slice A1 n1 c1, .slice A2 n2 c2, .bool b, .int .i64 n]
/-- The reduction of a row. -/
def oneV (b : Bool) (n : Int) : Value := if b then redV 1 1 n n n else redV 1 0 0 0 0
theorem oneV_no (n : Int) : oneV false n = .agg #[.int .i64 1, .int .i64 0, .int .i64 0, .int .u64 0, .int .i64 0, .int .i64 0] := by
  unfold oneV redV
  rw [if_neg Bool.false_ne_true, hl_zero.1, hl_zero.2]
theorem oneV_yes (n : Int) : oneV true n = .agg #[.int .i64 1, .int .i64 1, .int .i64 (hiI n), .int .u64 (loI n), .int .i64 n, .int .i64 n] := rfl

set_option maxHeartbeats 1000000 in
theorem one_any (A1 : Option Addr) (n1 c1 : Nat) (A2 : Option Addr) (n2 c2 : Nat) (b : Bool) (n : Int) (w : World) (hn : R64 n) :
    Calls Try.prog 99 #[itemV A1 n1 c1 A2 n2 c2 b n] w fun e w' => e = .returned (oneV b n) ∧ Below w.heap.size w w' := by
  have hb0 := ((Below.refl w.heap.size w).alloc (Nat.le_refl _) (.cells #[.slice A1 n1 c1, .slice A2 n2 c2, .bool b, .int .i64 n] 58)).alloc (by simp) (.cells #[.int .i64 0, .int .i64 0, .int .i64 0, .int .u64 0, .int .i64 0, .int .i64 0] 37)
  unfold itemV
  cases b
  · have Hr := Lib.hid (oneV_no n)
    go_enter Try.func99, Try.ntmps99
    go_wp2
    refine bodyPost_ret (v := .agg #[.int .i64 1, .int .i64 0, .int .i64 0, .int .u64 0, .int .i64 0, .int .i64 0]) (by simp [results, Try.results99, go_sem]) rfl ⟨by rw [Hr.out], ((Below.refl _ _).alloc (Nat.le_refl _) _).alloc (by simp) _⟩
  · have Hr := Lib.hid (oneV_yes n)
    go_enter Try.func99, Try.ntmps99
    go_wp2_with fail
    refine (sumOf_agg n _ hn).mono ?_
    rintro e w1 ⟨rfl, hb1⟩
    have hsix : Six w1 (w.heap.size + 1) _ _ _ _ _ _ := six_new (g := w.heap.size + 1) (by simp) hb1
    have z2 : w.heap.size + 1 < w1.heap.size := World.block_lt_of_cell? w1 _ hsix.1.1
    obtain ⟨⟨r0, r1, r2, r3, r4, r5⟩, f0, f1, f2, f3, f4, f5⟩ := hsix.alloc (.cells #[.int .i64 (hiI n), .int .u64 (loI n)] 110)
    have d3 : w1.cell? ⟨w.heap.size, 3, none⟩ = some (.int .i64 n) := (hb1.cell (p := ⟨w.heap.size, 3, none⟩) (by simp; omega)).trans (cell_keep (World.cell?_alloc_new w #[.slice A1 n1 c1, .slice A2 n2 c2, .bool true, .int .i64 n] 58 3) _)
    have hb2 := hb0.trans (hb1.mono hb0.size)
    have s2 := hb2.size
    have d3 := cell_keep d3 (.cells #[.int .i64 (hiI n), .int .u64 (loI n)] 110)
    obtain ⟨⟨q0, q1, q2, q3, q4, q5⟩, p0, p1, p2, p3, p4, p5⟩ := hsix
    clear hb1 hb0
    go_wp2
    refine bodyPost_ret (v := .agg #[.int .i64 1, .int .i64 1, .int .i64 (hiI n), .int .u64 (loI n), .int .i64 n, .int .i64 n]) ?_ rfl ⟨by rw [Hr.out], ?_⟩
    · simp [results, Try.results99, go_sem, *]
    · exact (below_set6 hb2 (by omega)).alloc (by simp [World.setCell]; omega) _

set_option maxHeartbeats 1000000 in
theorem refOne_any (A1 : Option Addr) (n1 c1 : Nat) (A2 : Option Addr) (n2 c2 : Nat) (b : Bool) (n : Int) (w : World) (hn : R64 n) :
    Calls Try.prog 55 #[itemV A1 n1 c1 A2 n2 c2 b n] w fun e w' => e = .returned (oneV b n) ∧ Below w.heap.size w w' := by
  obtain ⟨W1, hW1⟩ : ∃ W1, (w.alloc (.cells #[.slice A1 n1 c1, .slice A2 n2 c2, .bool b, .int .i64 n] 58)).alloc (.cells #[.int .i64 0, .int .i64 0, .int .i64 0, .int .u64 0, .int .i64 0, .int .i64 0] 37) = W1 := ⟨_, rfl⟩
  have hb0 : Below w.heap.size w W1 := by rw [← hW1]; exact ((Below.refl w.heap.size w).alloc (Nat.le_refl _) _).alloc (by simp) _
  have hz : W1.heap.size = w.heap.size + 2 := by rw [← hW1]; simp
  have h1 : Six W1 (w.heap.size + 1) (.int .i64 0) (.int .i64 0) (.int .i64 0) (.int .u64 0) (.int .i64 0) (.int .i64 0) := by
    rw [← hW1]
    have := Six.new (w.alloc (.cells #[.slice A1 n1 c1, .slice A2 n2 c2, .bool b, .int .i64 n] 58)) (.int .i64 0) (.int .i64 0) (.int .i64 0) (.int .u64 0) (.int .i64 0) (.int .i64 0) 37
    simpa using this
  have h2 : Six (W1.alloc (.cells #[.int .i64 1, .int .i64 0, .int .i64 0, .int .u64 0, .int .i64 0, .int .i64 0] 37)) (w.heap.size + 2) (.int .i64 1) (.int .i64 0) (.int .i64 0) (.int .u64 0) (.int .i64 0) (.int .i64 0) := by
    have := Six.new W1 (.int .i64 1) (.int .i64 0) (.int .i64 0) (.int .u64 0) (.int .i64 0) (.int .i64 0) 37
    rwa [hz] at this
  have h3 := h1.alloc (.cells #[.int .i64 1, .int .i64 0, .int .i64 0, .int .u64 0, .int .i64 0, .int .i64 0] 37)
  have d2 : W1.cell? ⟨w.heap.size, 2, none⟩ = some (.bool b) := by
    rw [← hW1]
    exact cell_keep (World.cell?_alloc_new w #[.slice A1 n1 c1, .slice A2 n2 c2, .bool b, .int .i64 n] 58 2) _
  have d3 : W1.cell? ⟨w.heap.size, 3, none⟩ = some (.int .i64 n) := by
    rw [← hW1]
    exact cell_keep (World.cell?_alloc_new w #[.slice A1 n1 c1, .slice A2 n2 c2, .bool b, .int .i64 n] 58 3) _
  have e2 := cell_keep d2 (.cells #[.int .i64 1, .int .i64 0, .int .i64 0, .int .u64 0, .int .i64 0, .int .i64 0] 37)
  have e3 := cell_keep d3 (.cells #[.int .i64 1, .int .i64 0, .int .i64 0, .int .u64 0, .int .i64 0, .int .i64 0] 37)
  have hb1 := hb0.alloc (by omega) (.cells #[.int .i64 1, .int .i64 0, .int .i64 0, .int .u64 0, .int .i64 0, .int .i64 0] 37)
  have hz2 : (W1.alloc (.cells #[.int .i64 1, .int .i64 0, .int .i64 0, .int .u64 0, .int .i64 0, .int .i64 0] 37)).heap.size = w.heap.size + 3 := by simp [hz]
  unfold itemV
  cases b
  · have Hr := Lib.hid (oneV_no n)
    obtain ⟨⟨r0, r1, r2, r3, r4, r5⟩, f0, f1, f2, f3, f4, f5⟩ := h1
    obtain ⟨⟨q0, q1, q2, q3, q4, q5⟩, p0, p1, p2, p3, p4, p5⟩ := h3
    obtain ⟨⟨k0, k1, k2, k3, k4, k5⟩, l0, l1, l2, l3, l4, l5⟩ := h2
    go_enter Try.func55, Try.ntmps55
    go_wp2
    refine bodyPost_ret (v := .agg #[.int .i64 1, .int .i64 0, .int .i64 0, .int .u64 0, .int .i64 0, .int .i64 0]) ?_ rfl ⟨by rw [Hr.out], ?_⟩
    · simp [results, Try.results55, go_sem, *]
    · exact (below_set6 hb0 (by omega)).alloc (by simp [World.setCell]; omega) _
  · have Hr := Lib.hid (oneV_yes n)
    have H1 := Lib.hid h1
    have H2 := Lib.hid h2
    have H3 := Lib.hid h3
    clear h1 h2 h3
    go_enter Try.func55, Try.ntmps55
    go_wp2_with fail
    refine (refOf_any n _ hn).mono ?_
    rintro e w1 ⟨rfl, hb5⟩
    have x1 := H3.out.below hb5 rfl
    have x2 := H2.out.below hb5 rfl
    have d3 : w1.cell? ⟨w.heap.size, 3, none⟩ = some (.int .i64 n) := mkept_later hb5 e3
    have d2 : w1.cell? ⟨w.heap.size, 2, none⟩ = some (.bool true) := mkept_later hb5 e2
    have g3 := cell_keep d3 (.cells #[.int .i64 (hiI n), .int .u64 (loI n)] 90)
    have hb6 := hb1.trans (hb5.mono hb1.size)
    have s6 := hb6.size
    have z6 : w.heap.size + 2 < w1.heap.size := World.block_lt_of_cell? w1 _ x2.1.1
    have y1 := x1.alloc (.cells #[.int .i64 (hiI n), .int .u64 (loI n)] 90)
    have y2 := x2.alloc (.cells #[.int .i64 (hiI n), .int .u64 (loI n)] 90)
    clear hb5 e2 e3 hb0 hb1
    have t0 : (w1.alloc (.cells #[.int .i64 (hiI n), .int .u64 (loI n)] 90)).cell? ⟨w1.heap.size, 0, none⟩ = some (.int .i64 (hiI n)) := World.cell?_alloc_new w1 _ _ 0
    have t1 : (w1.alloc (.cells #[.int .i64 (hiI n), .int .u64 (loI n)] 90)).cell? ⟨w1.heap.size, 1, none⟩ = some (.int .u64 (loI n)) := World.cell?_alloc_new w1 _ _ 1
    have hb7 := hb6.alloc s6 (.cells #[.int .i64 (hiI n), .int .u64 (loI n)] 90)
    go_upto_region 4 with fail
    generalize w1.alloc (.cells #[.int .i64 (hiI n), .int .u64 (loI n)] 90) = W3 at *
    generalize w1.heap.size = G at *
    clear x1 x2 d3 d2 hb6
    obtain ⟨⟨k0, k1, k2, k3, k4, k5⟩, l0, l1, l2, l3, l4, l5⟩ := y1
    obtain ⟨⟨i0, i1, i2, i3, i4, i5⟩, j0, j1, j2, j3, j4, j5⟩ := y2
    have n1 : ¬ w.heap.size + 1 = w.heap.size + 2 := by omega
    have n2 : ¬ w.heap.size + 2 = w.heap.size + 1 := by omega
    go_wp2
    refine bodyPost_ret (v := .agg #[.int .i64 1, .int .i64 1, .int .i64 (hiI n), .int .u64 (loI n), .int .i64 n, .int .i64 n]) ?_ rfl ⟨by rw [Hr.out], ?_⟩
    · simp [results, Try.results55, go_sem, *]
    · exact below_set6 (below_set6 hb7 (by omega)) (by omega)
end Go.Proofs.Ytnfohlabmidliaa
/-
  Package monoid: join.
-/
namespace Go.Proofs.Ytnfohlabmidliaa
open Go.RowKit
attribute [local go_sem ↓] Go.wp_at_zero Go.wp_at_succ

theorem plus_aa (a b : Int) (w : World) : Calls Try.prog 69 #[.agg #[.int .i64 (hiI a), .int .u64 (loI a)], .agg #[.int .i64 (hiI b), .int .u64 (loI b)]] w fun e w' => e = .returned (.agg #[.int .i64 (hiI (a + b)), .int .u64 (loI (a + b))]) ∧ Below w.heap.size w w' := plus_any a b w
theorem six_rule {W0 : World} {g : Nat} {a b c d e f : Value} (h : Six W0 g a b c d e f) (W : World) (hb : Below W0.heap.size W0 W) : Six W g a b c d e f := h.below hb rfl

theorem set_far (w : World) (g k j : Nat) (x : Value) (h : k ≠ j) : (w.setCell ⟨g, k, none⟩ x).cell? ⟨g, j, none⟩ = w.cell? ⟨g, j, none⟩ :=
  World.cell?_setCell_other w _ _ _ (by intro e; injection e with _ e2; exact h e2)
theorem Six.other {w : World} {g g' k : Nat} {a b c d e f : Value} (h : Six w g a b c d e f) (hg : g' ≠ g) (x : Value) : Six (w.setCell ⟨g', k, none⟩ x) g a b c d e f := by
  have o : ∀ j, (w.setCell ⟨g', k, none⟩ x).cell? ⟨g, j, none⟩ = w.cell? ⟨g, j, none⟩ := fun j => World.cell?_setCell_other w _ _ _ (by intro e; injection e with e1; exact hg e1)
  obtain ⟨⟨r0, r1, r2, r3, r4, r5⟩, f0, f1, f2, f3, f4, f5⟩ := h
  exact ⟨⟨(o 0).trans r0, (o 1).trans r1, (o 2).trans r2, (o 3).trans r3, (o 4).trans r4, (o 5).trans r5⟩, (frozen_set _ _ _ _).trans f0, (frozen_set _ _ _ _).trans f1, (frozen_set _ _ _ _).trans f2, (frozen_set _ _ _ _).trans f3, (frozen_set _ _ _ _).trans f4, (frozen_set _ _ _ _).trans f5⟩
theorem Six.s0 {w : World} {g : Nat} {a b c d e f : Value} (h : Six w g a b c d e f) (x : Value) : Six (w.setCell ⟨g, 0, none⟩ x) g x b c d e f := by
  obtain ⟨⟨r0, r1, r2, r3, r4, r5⟩, f0, f1, f2, f3, f4, f5⟩ := h
  exact ⟨⟨cell_set r0 x, (set_far w g 0 1 x (by decide)).trans r1, (set_far w g 0 2 x (by decide)).trans r2, (set_far w g 0 3 x (by decide)).trans r3, (set_far w g 0 4 x (by decide)).trans r4, (set_far w g 0 5 x (by decide)).trans r5⟩, (frozen_set _ _ _ _).trans f0, (frozen_set _ _ _ _).trans f1, (frozen_set _ _ _ _).trans f2, (frozen_set _ _ _ _).trans f3, (frozen_set _ _ _ _).trans f4, (frozen_set _ _ _ _).trans f5⟩
theorem Six.s1 {w : World} {g : Nat} {a b c d e f : Value} (h : Six w g a b c d e f) (x : Value) : Six (w.setCell ⟨g, 1, none⟩ x) g a x c d e f := by
  obtain ⟨⟨r0, r1, r2, r3, r4, r5⟩, f0, f1, f2, f3, f4, f5⟩ := h
  exact ⟨⟨(set_far w g 1 0 x (by decide)).trans r0, cell_set r1 x, (set_far w g 1 2 x (by decide)).trans r2, (set_far w g 1 3 x (by decide)).trans r3, (set_far w g 1 4 x (by decide)).trans r4, (set_far w g 1 5 x (by decide)).trans r5⟩, (frozen_set _ _ _ _).trans f0, (frozen_set _ _ _ _).trans f1, (frozen_set _ _ _ _).trans f2, (frozen_set _ _ _ _).trans f3, (frozen_set _ _ _ _).trans f4, (frozen_set _ _ _ _).trans f5⟩
theorem Six.s2 {w : World} {g : Nat} {a b c d e f : Value} (h : Six w g a b c d e f) (x : Value) : Six (w.setCell ⟨g, 2, none⟩ x) g a b x d e f := by
  obtain ⟨⟨r0, r1, r2, r3, r4, r5⟩, f0, f1, f2, f3, f4, f5⟩ := h
  exact ⟨⟨(set_far w g 2 0 x (by decide)).trans r0, (set_far w g 2 1 x (by decide)).trans r1, cell_set r2 x, (set_far w g 2 3 x (by decide)).trans r3, (set_far w g 2 4 x (by decide)).trans r4, (set_far w g 2 5 x (by decide)).trans r5⟩, (frozen_set _ _ _ _).trans f0, (frozen_set _ _ _ _).trans f1, (frozen_set _ _ _ _).trans f2, (frozen_set _ _ _ _).trans f3, (frozen_set _ _ _ _).trans f4, (frozen_set _ _ _ _).trans f5⟩
theorem Six.s3 {w : World} {g : Nat} {a b c d e f : Value} (h : Six w g a b c d e f) (x : Value) : Six (w.setCell ⟨g, 3, none⟩ x) g a b c x e f := by
  obtain ⟨⟨r0, r1, r2, r3, r4, r5⟩, f0, f1, f2, f3, f4, f5⟩ := h
  exact ⟨⟨(set_far w g 3 0 x (by decide)).trans r0, (set_far w g 3 1 x (by decide)).trans r1, (set_far w g 3 2 x (by decide)).trans r2, cell_set r3 x, (set_far w g 3 4 x (by decide)).trans r4, (set_far w g 3 5 x (by decide)).trans r5⟩, (frozen_set _ _ _ _).trans f0, (frozen_set _ _ _ _).trans f1, (frozen_set _ _ _ _).trans f2, (frozen_set _ _ _ _).trans f3, (frozen_set _ _ _ _).trans f4, (frozen_set _ _ _ _).trans f5⟩
theorem Six.s4 {w : World} {g : Nat} {a b c d e f : Value} (h : Six w g a b c d e f) (x : Value) : Six (w.setCell ⟨g, 4, none⟩ x) g a b c d x f := by
  obtain ⟨⟨r0, r1, r2, r3, r4, r5⟩, f0, f1, f2, f3, f4, f5⟩ := h
  exact ⟨⟨(set_far w g 4 0 x (by decide)).trans r0, (set_far w g 4 1 x (by decide)).trans r1, (set_far w g 4 2 x (by decide)).trans r2, (set_far w g 4 3 x (by decide)).trans r3, cell_set r4 x, (set_far w g 4 5 x (by decide)).trans r5⟩, (frozen_set _ _ _ _).trans f0, (frozen_set _ _ _ _).trans f1, (frozen_set _ _ _ _).trans f2, (frozen_set _ _ _ _).trans f3, (frozen_set _ _ _ _).trans f4, (frozen_set _ _ _ _).trans f5⟩
theorem Six.s5 {w : World} {g : Nat} {a b c d e f : Value} (h : Six w g a b c d e f) (x : Value) : Six (w.setCell ⟨g, 5, none⟩ x) g a b c d e x := by
  obtain ⟨⟨r0, r1, r2, r3, r4, r5⟩, f0, f1, f2, f3, f4, f5⟩ := h
  exact ⟨⟨(set_far w g 5 0 x (by decide)).trans r0, (set_far w g 5 1 x (by decide)).trans r1, (set_far w g 5 2 x (by decide)).trans r2, (set_far w g 5 3 x (by decide)).trans r3, (set_far w g 5 4 x (by decide)).trans r4, cell_set r5 x⟩, (frozen_set _ _ _ _).trans f0, (frozen_set _ _ _ _).trans f1, (frozen_set _ _ _ _).trans f2, (frozen_set _ _ _ _).trans f3, (frozen_set _ _ _ _).trans f4, (frozen_set _ _ _ _).trans f5⟩
/-- The least and the greatest of two. -/
def jL (i1 i2 l1 l2 : Int) : Int := if i1 = 0 then l2 else if i2 = 0 then l1 else min l1 l2
def jM (i1 i2 m1 m2 : Int) : Int := if i1 = 0 then m2 else if i2 = 0 then m1 else max m1 m2

set_option maxRecDepth 20000 in
set_option maxHeartbeats 2000000 in
theorem join_any (c1 i1 v1 l1 m1 c2 i2 v2 l2 m2 : Int) (w : World) (hc1 : 0 ≤ c1 ∧ c1 ≤ 1073741824) (hc2 : 0 ≤ c2 ∧ c2 ≤ 1073741824) (hi1 : 0 ≤ i1 ∧ i1 ≤ 1073741824) (hi2 : 0 ≤ i2 ∧ i2 ≤ 1073741824) :
    Calls Try.prog 50 #[redV c1 i1 v1 l1 m1, redV c2 i2 v2 l2 m2] w fun e w' => e = .returned (redV (c1 + c2) (i1 + i2) (v1 + v2) (jL i1 i2 l1 l2) (jM i1 i2 m1 m2)) ∧ Below w.heap.size w w' := by
  obtain ⟨hc10, hc11⟩ := hc1
  obtain ⟨hc20, hc21⟩ := hc2
  obtain ⟨hi10, hi11⟩ := hi1
  obtain ⟨hi20, hi21⟩ := hi2
  obtain ⟨W0, hW0⟩ : ∃ W0, (((w.alloc (.cells #[.int .i64 c1, .int .i64 i1, .int .i64 (hiI v1), .int .u64 (loI v1), .int .i64 l1, .int .i64 m1] 37)).alloc (.cells #[.int .i64 c2, .int .i64 i2, .int .i64 (hiI v2), .int .u64 (loI v2), .int .i64 l2, .int .i64 m2] 37)).alloc (.cells #[.int .i64 0, .int .i64 0, .int .i64 0, .int .u64 0, .int .i64 0, .int .i64 0] 37)).alloc (.cells #[.int .i64 (c1 + c2), .int .i64 (i1 + i2), .int .i64 0, .int .u64 0, .int .i64 0, .int .i64 0] 37) = W0 := ⟨_, rfl⟩
  have hb0 : Below w.heap.size w W0 := by rw [← hW0]; exact ((((Below.refl _ _).alloc (Nat.le_refl _) _).alloc (by simp) _).alloc (by simp; omega) _).alloc (by simp; omega) _
  have hz : W0.heap.size = w.heap.size + 4 := by rw [← hW0]; simp
  have x1 : Six W0 w.heap.size (.int .i64 c1) (.int .i64 i1) (.int .i64 (hiI v1)) (.int .u64 (loI v1)) (.int .i64 l1) (.int .i64 m1) := by
    rw [← hW0]
    exact (((Six.new w _ _ _ _ _ _ _).alloc _).alloc _).alloc _
  have x2 : Six W0 (w.heap.size + 1) (.int .i64 c2) (.int .i64 i2) (.int .i64 (hiI v2)) (.int .u64 (loI v2)) (.int .i64 l2) (.int .i64 m2) := by
    rw [← hW0]
    have := (((Six.new (w.alloc (.cells #[.int .i64 c1, .int .i64 i1, .int .i64 (hiI v1), .int .u64 (loI v1), .int .i64 l1, .int .i64 m1] 37)) (.int .i64 c2) (.int .i64 i2) (.int .i64 (hiI v2)) (.int .u64 (loI v2)) (.int .i64 l2) (.int .i64 m2) 37).alloc (.cells #[.int .i64 0, .int .i64 0, .int .i64 0, .int .u64 0, .int .i64 0, .int .i64 0] 37)).alloc (.cells #[.int .i64 (c1 + c2), .int .i64 (i1 + i2), .int .i64 0, .int .u64 0, .int .i64 0, .int .i64 0] 37))
    simpa using this
  have x3 : Six W0 (w.heap.size + 1 + 1) (.int .i64 0) (.int .i64 0) (.int .i64 0) (.int .u64 0) (.int .i64 0) (.int .i64 0) := by
    rw [← hW0]
    have := ((Six.new ((w.alloc (.cells #[.int .i64 c1, .int .i64 i1, .int .i64 (hiI v1), .int .u64 (loI v1), .int .i64 l1, .int .i64 m1] 37)).alloc (.cells #[.int .i64 c2, .int .i64 i2, .int .i64 (hiI v2), .int .u64 (loI v2), .int .i64 l2, .int .i64 m2] 37)) (.int .i64 0) (.int .i64 0) (.int .i64 0) (.int .u64 0) (.int .i64 0) (.int .i64 0) 37).alloc (.cells #[.int .i64 (c1 + c2), .int .i64 (i1 + i2), .int .i64 0, .int .u64 0, .int .i64 0, .int .i64 0] 37))
    simpa using this
  have x4 : Six W0 (w.heap.size + 1 + 1 + 1) (.int .i64 (c1 + c2)) (.int .i64 (i1 + i2)) (.int .i64 0) (.int .u64 0) (.int .i64 0) (.int .i64 0) := by
    rw [← hW0]
    have := (Six.new (((w.alloc (.cells #[.int .i64 c1, .int .i64 i1, .int .i64 (hiI v1), .int .u64 (loI v1), .int .i64 l1, .int .i64 m1] 37)).alloc (.cells #[.int .i64 c2, .int .i64 i2, .int .i64 (hiI v2), .int .u64 (loI v2), .int .i64 l2, .int .i64 m2] 37)).alloc (.cells #[.int .i64 0, .int .i64 0, .int .i64 0, .int .u64 0, .int .i64 0, .int .i64 0] 37)) (.int .i64 (c1 + c2)) (.int .i64 (i1 + i2)) (.int .i64 0) (.int .u64 0) (.int .i64 0) (.int .i64 0) 37)
    simpa using this
  have a0 := fun W h => (six_rule x1 W h).1.1
  have a1 := fun W h => (six_rule x1 W h).1.2.1
  have a2 := fun W h => (six_rule x1 W h).1.2.2.1
  have a3 := fun W h => (six_rule x1 W h).1.2.2.2.1
  have a4 := fun W h => (six_rule x1 W h).1.2.2.2.2.1
  have a5 := fun W h => (six_rule x1 W h).1.2.2.2.2.2
  have b0 := fun W h => (six_rule x2 W h).1.1
  have b1 := fun W h => (six_rule x2 W h).1.2.1
  have b2 := fun W h => (six_rule x2 W h).1.2.2.1
  have b3 := fun W h => (six_rule x2 W h).1.2.2.2.1
  have b4 := fun W h => (six_rule x2 W h).1.2.2.2.2.1
  have b5 := fun W h => (six_rule x2 W h).1.2.2.2.2.2
  have HW0 := Lib.hid hW0
  have X1 := Lib.hid x1
  have X2 := Lib.hid x2
  have X3 := Lib.hid x3
  have X4 := Lib.hid x4
  have Hz := Lib.hid hz
  clear x1 x2 x3 x4 hz hW0
  unfold redV
  go_enter Try.func50, Try.ntmps50
  go_upto_region 2 with fail
  rw [HW0.out]
  clear HW0
  go_cut [6] (fun s3 wx => ∃ g : Nat, s3 = .pointer (some ⟨g, 0, none⟩) ∧ Below W0.heap.size W0 wx ∧ wx.cell? ⟨g, 0, none⟩ = some (.int .i64 (hiI (v1 + v2))) ∧ wx.cell? ⟨g, 1, none⟩ = some (.int .u64 (loI (v1 + v2))) ∧ W0.heap.size ≤ g)
  case first =>
    go_region_held3 (fun w' => Below W0.heap.size W0 w') (first | assumption | exact (Below.refl _ _).drew | exact ((Below.refl _ _).alloc (Nat.le_refl _) _).drew | (refine mS_alloc ?_; assumption) | (refine mS_call ?_ ?_ ?_; assumption; assumption; rfl) | (refine S_set2 ?_ ?_; assumption; first | exact Nat.le_refl _ | exact Below.size (by assumption))) (first
      | (go_at_call 66; with_reducible refine (total_agg c1 i1 v1 l1 m1 _).mono ?_; rintro e wA ⟨rfl, hbA⟩; have hSA := mS_call hbA (by assumption) rfl; (first | (have kk := keep_two hbA rfl kk; obtain ⟨k0, k1, f0, f1⟩ := id kk) | (have kk := new_two hbA rfl; obtain ⟨k0, k1, f0, f1⟩ := id kk) | (have kk := new_two (below_undrew hbA) rfl; obtain ⟨k0, k1, f0, f1⟩ := id kk) | skip))
      | (go_at_call 66; with_reducible refine (total_agg c2 i2 v2 l2 m2 _).mono ?_; rintro e wB ⟨rfl, hbB⟩; have hSB := mS_call hbB (by assumption) rfl; (first | (have kk := keep_two hbB rfl kk; obtain ⟨k0, k1, f0, f1⟩ := id kk) | (have kk := new_two hbB rfl; obtain ⟨k0, k1, f0, f1⟩ := id kk) | (have kk := new_two (below_undrew hbB) rfl; obtain ⟨k0, k1, f0, f1⟩ := id kk) | skip))
      | (go_at_call 69; with_reducible refine (plus_aa v1 v2 _).mono ?_; rintro e wC ⟨rfl, hbC⟩; have hSC := mS_call hbC (by assumption) rfl; (first | (have kk := keep_two hbC rfl kk; obtain ⟨k0, k1, f0, f1⟩ := id kk) | (have kk := new_two hbC rfl; obtain ⟨k0, k1, f0, f1⟩ := id kk) | (have kk := new_two (below_undrew hbC) rfl; obtain ⟨k0, k1, f0, f1⟩ := id kk) | skip)))
    all_goals
      go_wp2_with fail
      go_meet
      case rel => exact ⟨_, rfl, by assumption, by go_simp, by go_simp, by first | exact Nat.le_refl _ | exact Below.size (by assumption)⟩
  case rest =>
    obtain ⟨g6, rfl, hb1, d0, d1, hg6⟩ := hcut
    have y1 := X1.out.below hb1 rfl
    have y2 := X2.out.below hb1 rfl
    have y3 := X3.out.below hb1 rfl
    have y4 := X4.out.below hb1 rfl
    have hb2 := hb0.trans (hb1.mono hb0.size)
    clear a0 a1 a2 a3 a4 a5 b0 b1 b2 b3 b4 b5 X1 X2 X3 X4
    rw [Hz.out] at hg6
    have ho : ¬ g6 = w.heap.size + 1 + 1 + 1 := by omega
    have ho' : ¬ w.heap.size + 1 + 1 + 1 = g6 := by omega
    have Y1 := Lib.hid y1
    have Y2 := Lib.hid y2
    have Y3 := Lib.hid y3
    have Y4 := Lib.hid y4
    obtain ⟨⟨k0, k1, k2, k3, k4, k5⟩, j0, j1, j2, j3, j4, j5⟩ := y4
    clear y1 y2 y3
    go_upto_region 3 with fail
    go_cut [] (fun wx => Below w.heap.size w wx ∧ Six wx w.heap.size (.int .i64 c1) (.int .i64 i1) (.int .i64 (hiI v1)) (.int .u64 (loI v1)) (.int .i64 l1) (.int .i64 m1) ∧ Six wx (w.heap.size + 1) (.int .i64 c2) (.int .i64 i2) (.int .i64 (hiI v2)) (.int .u64 (loI v2)) (.int .i64 l2) (.int .i64 m2) ∧ Six wx (w.heap.size + 1 + 1) (.int .i64 0) (.int .i64 0) (.int .i64 0) (.int .u64 0) (.int .i64 0) (.int .i64 0) ∧ Six wx (w.heap.size + 1 + 1 + 1) (.int .i64 (c1 + c2)) (.int .i64 (i1 + i2)) (.int .i64 (hiI (v1 + v2))) (.int .u64 (loI (v1 + v2))) (.int .i64 0) (.int .i64 0))
    case first =>
      go_region
      go_wp2_with fail
      go_meet
      case rel =>
        exact ⟨(((hb2.setCell (p := ⟨w.heap.size + 1 + 1 + 1, 2, none⟩) (by show w.heap.size ≤ w.heap.size + 1 + 1 + 1; omega) _).setCell (p := ⟨w.heap.size + 1 + 1 + 1, 3, none⟩) (by show w.heap.size ≤ w.heap.size + 1 + 1 + 1; omega) _)).drew, (Y1.out.other (by omega) _).other (by omega) _, (Y2.out.other (by omega) _).other (by omega) _, (Y3.out.other (by omega) _).other (by omega) _, (Y4.out.s2 _).s3 _⟩
    case rest =>
      obtain ⟨hb3, z1, z2, z3, z4⟩ := hcut
      have Z1 := Lib.hid z1
      have Z2 := Lib.hid z2
      have Z3 := Lib.hid z3
      have Z4 := Lib.hid z4
      obtain ⟨⟨p0, p1, p2, p3, p4, p5⟩, _⟩ := z1
      obtain ⟨⟨q0, q1, q2, q3, q4, q5⟩, _⟩ := z2
      obtain ⟨⟨r0, r1, r2, r3, r4, r5⟩, f0, f1, f2, f3, f4, f5⟩ := z3
      obtain ⟨⟨k0, k1, k2, k3, k4, k5⟩, j0, j1, j2, j3, j4, j5⟩ := z4
      clear hb0 hb1 hb2 Hz Y1 Y2 Y3 d0 d1 hg6 ho ho'
      go_upto_block 0 with fail
      go_cut [] (fun wx => Below w.heap.size w wx ∧ Six wx (w.heap.size + 1 + 1) (.int .i64 0) (.int .i64 0) (.int .i64 0) (.int .u64 0) (.int .i64 0) (.int .i64 0) ∧ Six wx (w.heap.size + 1 + 1 + 1) (.int .i64 (c1 + c2)) (.int .i64 (i1 + i2)) (.int .i64 (hiI (v1 + v2))) (.int .u64 (loI (v1 + v2))) (.int .i64 (jL i1 i2 l1 l2)) (.int .i64 (jM i1 i2 m1 m2)))
      case first =>
        by_cases e1 : i1 = 0
        · have He : jL i1 i2 l1 l2 = l2 ∧ jM i1 i2 m1 m2 = m2 := by unfold jL jM; rw [if_pos e1, if_pos e1]; exact ⟨rfl, rfl⟩
          have e1b : (i1 == 0) = true := beq_iff_eq.2 e1
          have HE := Lib.hid He
          clear He e1
          go_wp2_with fail
          go_region
          go_wp2_with fail
          go_meet
          case rel =>
            have hz : w.heap.size ≤ w.heap.size + 1 + 1 + 1 := by omega
            refine ⟨(((hb3.setCell (p := ⟨w.heap.size + 1 + 1 + 1, 4, none⟩) hz _).setCell (p := ⟨w.heap.size + 1 + 1 + 1, 5, none⟩) hz _)).drew, (Z3.out.other (by omega) _).other (by omega) _, ?_⟩
            rw [HE.out.1, HE.out.2]
            exact (Z4.out.s4 _).s5 _
        · have e1b : (i1 == 0) = false := beq_eq_false_iff_ne.2 e1
          by_cases e2 : i2 = 0
          · have He : jL i1 i2 l1 l2 = l1 ∧ jM i1 i2 m1 m2 = m1 := by unfold jL jM; rw [if_neg e1, if_neg e1, if_pos e2, if_pos e2]; exact ⟨rfl, rfl⟩
            have e2b : (i2 == 0) = true := beq_iff_eq.2 e2
            have HE := Lib.hid He
            clear He e1 e2
            go_wp2_with fail
            go_region
            go_wp2_with fail
            go_meet
            case rel =>
              have hz : w.heap.size ≤ w.heap.size + 1 + 1 + 1 := by omega
              refine ⟨(((hb3.setCell (p := ⟨w.heap.size + 1 + 1 + 1, 4, none⟩) hz _).setCell (p := ⟨w.heap.size + 1 + 1 + 1, 5, none⟩) hz _)).drew, (Z3.out.other (by omega) _).other (by omega) _, ?_⟩
              rw [HE.out.1, HE.out.2]
              exact (Z4.out.s4 _).s5 _
          · have e2b : (i2 == 0) = false := beq_eq_false_iff_ne.2 e2
            by_cases e3 : l2 < l1
            · by_cases e4 : m1 < m2
              · have He : jL i1 i2 l1 l2 = l2 ∧ jM i1 i2 m1 m2 = m2 := by unfold jL jM; rw [if_neg e1, if_neg e1, if_neg e2, if_neg e2]; exact ⟨by omega, by omega⟩
                have HE := Lib.hid He
                clear He e1 e2
                go_wp2_with fail
                go_region
                go_wp2_with fail
                go_meet
                case rel =>
                  have hz : w.heap.size ≤ w.heap.size + 1 + 1 + 1 := by omega
                  refine ⟨(((hb3.setCell (p := ⟨w.heap.size + 1 + 1 + 1, 4, none⟩) hz _).setCell (p := ⟨w.heap.size + 1 + 1 + 1, 5, none⟩) hz _)).drew, (Z3.out.other (by omega) _).other (by omega) _, ?_⟩
                  rw [HE.out.1, HE.out.2]
                  exact (Z4.out.s4 _).s5 _
              · have He : jL i1 i2 l1 l2 = l2 ∧ jM i1 i2 m1 m2 = m1 := by unfold jL jM; rw [if_neg e1, if_neg e1, if_neg e2, if_neg e2]; exact ⟨by omega, by omega⟩
                have HE := Lib.hid He
                clear He e1 e2
                go_wp2_with fail
                go_region
                go_wp2_with fail
                go_meet
                case rel =>
                  have hz : w.heap.size ≤ w.heap.size + 1 + 1 + 1 := by omega
                  refine ⟨(((hb3.setCell (p := ⟨w.heap.size + 1 + 1 + 1, 4, none⟩) hz _).setCell (p := ⟨w.heap.size + 1 + 1 + 1, 5, none⟩) hz _)).drew, (Z3.out.other (by omega) _).other (by omega) _, ?_⟩
                  rw [HE.out.1, HE.out.2]
                  exact (Z4.out.s4 _).s5 _
            · by_cases e4 : m1 < m2
              · have He : jL i1 i2 l1 l2 = l1 ∧ jM i1 i2 m1 m2 = m2 := by unfold jL jM; rw [if_neg e1, if_neg e1, if_neg e2, if_neg e2]; exact ⟨by omega, by omega⟩
                have HE := Lib.hid He
                clear He e1 e2
                go_wp2_with fail
                go_region
                go_wp2_with fail
                go_meet
                case rel =>
                  have hz : w.heap.size ≤ w.heap.size + 1 + 1 + 1 := by omega
                  refine ⟨(((hb3.setCell (p := ⟨w.heap.size + 1 + 1 + 1, 4, none⟩) hz _).setCell (p := ⟨w.heap.size + 1 + 1 + 1, 5, none⟩) hz _)).drew, (Z3.out.other (by omega) _).other (by omega) _, ?_⟩
                  rw [HE.out.1, HE.out.2]
                  exact (Z4.out.s4 _).s5 _
              · have He : jL i1 i2 l1 l2 = l1 ∧ jM i1 i2 m1 m2 = m1 := by unfold jL jM; rw [if_neg e1, if_neg e1, if_neg e2, if_neg e2]; exact ⟨by omega, by omega⟩
                have HE := Lib.hid He
                clear He e1 e2
                go_wp2_with fail
                go_region
                go_wp2_with fail
                go_meet
                case rel =>
                  have hz : w.heap.size ≤ w.heap.size + 1 + 1 + 1 := by omega
                  refine ⟨(((hb3.setCell (p := ⟨w.heap.size + 1 + 1 + 1, 4, none⟩) hz _).setCell (p := ⟨w.heap.size + 1 + 1 + 1, 5, none⟩) hz _)).drew, (Z3.out.other (by omega) _).other (by omega) _, ?_⟩
                  rw [HE.out.1, HE.out.2]
                  exact (Z4.out.s4 _).s5 _
      case rest =>
        obtain ⟨hb4, z5, z6⟩ := hcut
        clear p0 p1 p2 p3 p4 p5 q0 q1 q2 q3 q4 q5 r0 r1 r2 r3 r4 r5 f0 f1 f2 f3 f4 f5 k0 k1 k2 k3 k4 k5 j0 j1 j2 j3 j4 j5 hb3
        obtain ⟨⟨r0, r1, r2, r3, r4, r5⟩, f0, f1, f2, f3, f4, f5⟩ := z5
        obtain ⟨⟨k0, k1, k2, k3, k4, k5⟩, j0, j1, j2, j3, j4, j5⟩ := z6
        go_wp2
        refine bodyPost_ret (v := .agg #[.int .i64 (c1 + c2), .int .i64 (i1 + i2), .int .i64 (hiI (v1 + v2)), .int .u64 (loI (v1 + v2)), .int .i64 (jL i1 i2 l1 l2), .int .i64 (jM i1 i2 m1 m2)]) ?_ rfl ⟨rfl, below_set6 hb4 (by omega)⟩
        simp [results, Try.results50, go_sem, *]
end Go.Proofs.Ytnfohlabmidliaa
/-
  Package monoid: Join.
-/
namespace Go.Proofs.Ytnfohlabmidliaa
open Go.RowKit
attribute [local go_sem ↓] Go.wp_at_zero Go.wp_at_succ

/-- A reduction, as numbers. -/
structure RedT where
  c : Int
  i : Int
  v : Int
  l : Int
  m : Int
def RedT.ok (r : RedT) : Prop := R64 r.c ∧ R64 r.i ∧ R128 r.v ∧ R64 r.l ∧ R64 r.m
def RedT.valid (r : RedT) : Bool := validB r.c r.i r.v r.l r.m
def RedT.val (r : RedT) : Value := redV r.c r.i r.v r.l r.m
def RedT.cells (r : RedT) : List Value := [.int .i64 r.c, .int .i64 r.i, .int .i64 (hiI r.v), .int .u64 (loI r.v), .int .i64 r.l, .int .i64 r.m]
def RedT.zero : RedT := ⟨0, 0, 0, 0, 0⟩
def RedT.join (a r : RedT) : RedT := ⟨a.c + r.c, a.i + r.i, a.v + r.v, jL a.i r.i a.l r.l, jM a.i r.i a.m r.m⟩
/-- What Join makes of valid reductions, behind what has been joined. -/
def jrun : List RedT → RedT → RedT × Int
  | [], a => (a, 0)
  | r :: l, a => if 1073741824 - a.c < r.c then (RedT.zero, 5) else jrun l (a.join r)
def jall (l : List RedT) : RedT × Int := if l.all RedT.valid then jrun l RedT.zero else (RedT.zero, 230)
/-- A slice of reductions. -/
def Reds (w : World) (B : Nat) (A : Option Addr) (n : Nat) (l : List RedT) : Prop := Shows w B 6 A n (l.flatMap RedT.cells)
theorem reds_len {w : World} {B : Nat} {A : Option Addr} {n : Nat} {l : List RedT} (h : Reds w B A n l) : l.length = n := by
  have h1 := h.1
  have : ∀ l : List RedT, (l.flatMap RedT.cells).length = l.length * 6 := by
    intro l
    induction l with
    | nil => rfl
    | cons r l ih => rw [List.flatMap_cons, List.length_append, ih, List.length_cons]; simp only [RedT.cells, List.length_cons, List.length_nil]; omega
  rw [this] at h1
  omega
theorem flat_at : ∀ (l : List RedT) (k j : Nat) (hk : k < l.length) (_ : j < 6), (l.flatMap RedT.cells)[k * 6 + j]? = (l[k]'hk).cells[j]?
  | r :: l, 0, j, _, hj => by
    rw [List.flatMap_cons, List.getElem?_append_left (by simp [RedT.cells]; omega)]
    simp
  | r :: l, k + 1, j, hk, hj => by
    have e : (k + 1) * 6 + j = r.cells.length + (k * 6 + j) := by simp only [RedT.cells, List.length_cons, List.length_nil]; omega
    rw [List.flatMap_cons, e, List.getElem?_append_right (by omega), Nat.add_sub_cancel_left, flat_at l k j (by simpa using hk) hj]
    simp
theorem reds_cell {w : World} {B : Nat} {A : Option Addr} {n : Nat} {l : List RedT} (h : Reds w B A n l) {k : Nat} (hk : k < n) : ∃ (b off : Nat) (r : RedT), A = some ⟨b, off, none⟩ ∧ b < B ∧ l[k]? = some r ∧
    w.cell? ⟨b, off + k * 6, none⟩ = some (.int .i64 r.c) ∧ w.cell? ⟨b, off + k * 6 + 1, none⟩ = some (.int .i64 r.i) ∧ w.cell? ⟨b, off + k * 6 + 2, none⟩ = some (.int .i64 (hiI r.v)) ∧ w.cell? ⟨b, off + k * 6 + 3, none⟩ = some (.int .u64 (loI r.v)) ∧ w.cell? ⟨b, off + k * 6 + 4, none⟩ = some (.int .i64 r.l) ∧ w.cell? ⟨b, off + k * 6 + 5, none⟩ = some (.int .i64 r.m) := by
  have hl := reds_len h
  obtain ⟨b, off, rfl, hb, hc⟩ := h.2 (by omega)
  have hk' : k < l.length := by omega
  refine ⟨b, off, l[k], rfl, hb, List.getElem?_eq_getElem hk', ?_, ?_, ?_, ?_, ?_, ?_⟩
  · exact hc (k * 6 + 0) _ ((flat_at l k 0 hk' (by omega)).trans rfl)
  · exact hc (k * 6 + 1) _ ((flat_at l k 1 hk' (by omega)).trans rfl)
  · exact hc (k * 6 + 2) _ ((flat_at l k 2 hk' (by omega)).trans rfl)
  · exact hc (k * 6 + 3) _ ((flat_at l k 3 hk' (by omega)).trans rfl)
  · exact hc (k * 6 + 4) _ ((flat_at l k 4 hk' (by omega)).trans rfl)
  · exact hc (k * 6 + 5) _ ((flat_at l k 5 hk' (by omega)).trans rfl)

theorem all_take {l : List RedT} {k : Nat} {r : RedT} (h : (l.take k).all RedT.valid = true) (hr : l[k]? = some r) (hv : r.valid = true) : (l.take (k + 1)).all RedT.valid = true := by
  have hk : k < l.length := (List.getElem?_eq_some_iff.1 hr).1
  have e : l[k] = r := (List.getElem?_eq_some_iff.1 hr).2
  rw [List.take_succ_eq_append_getElem hk, List.all_append, h, e]
  simp [hv]
theorem all_bad {l : List RedT} {k : Nat} {r : RedT} (hr : l[k]? = some r) (hv : r.valid = false) : jall l = (RedT.zero, 230) := by
  unfold jall
  rw [if_neg]
  intro h
  have := List.all_eq_true.1 h r (List.mem_of_getElem? hr)
  rw [hv] at this
  cases this
theorem jrun_go (l : List RedT) (r b : RedT) : ∀ a, jrun l a = (b, 0) → jrun (l ++ [r]) a = if 1073741824 - b.c < r.c then (RedT.zero, 5) else (b.join r, 0) := by
  induction l with
  | nil =>
    intro a h
    have e : a = b := congrArg Prod.fst h
    subst e
    rfl
  | cons x l ih =>
    intro a h
    have h' : (if 1073741824 - a.c < x.c then (RedT.zero, 5) else jrun l (a.join x)) = (b, 0) := h
    show (if 1073741824 - a.c < x.c then (RedT.zero, 5) else jrun (l ++ [r]) (a.join x)) = _
    by_cases hx : 1073741824 - a.c < x.c
    · rw [if_pos hx] at h'
      have := congrArg Prod.snd h'
      cases this
    · rw [if_neg hx] at h' ⊢
      exact ih _ h'
theorem jrun_over (l m : List RedT) : ∀ a, (jrun l a).2 ≠ 0 → jrun (l ++ m) a = jrun l a := by
  induction l with
  | nil => intro a h; exact absurd rfl h
  | cons x l ih =>
    intro a h
    have h' : (if 1073741824 - a.c < x.c then (RedT.zero, 5) else jrun l (a.join x)).2 ≠ 0 := h
    show (if 1073741824 - a.c < x.c then (RedT.zero, 5) else jrun (l ++ m) (a.join x)) = if 1073741824 - a.c < x.c then (RedT.zero, 5) else jrun l (a.join x)
    by_cases hx : 1073741824 - a.c < x.c
    · rw [if_pos hx, if_pos hx]
    · rw [if_neg hx] at h'
      rw [if_neg hx, if_neg hx]
      exact ih _ h'
theorem valid_bounds (r : RedT) (h : r.valid = true) : (0 ≤ r.c ∧ r.c ≤ 1073741824) ∧ 0 ≤ r.i ∧ r.i ≤ r.c := by
  unfold RedT.valid at h
  rcases valid_cases r.c r.i r.v r.l r.m with ⟨_, hr⟩ | ⟨_, hr⟩ | ⟨_, hr⟩ | ⟨_, hr⟩ | ⟨⟨h1, h2⟩, _⟩ | ⟨⟨h1, h2, h3⟩, _⟩ | ⟨⟨h1, h2, h3⟩, _⟩
  · rw [hr] at h; cases h
  · rw [hr] at h; cases h
  · rw [hr] at h; cases h
  · rw [hr] at h; cases h
  · omega
  · omega
  · omega
theorem jall_of (l : List RedT) (h : l.all RedT.valid = true) : jall l = jrun l RedT.zero := by unfold jall; rw [if_pos h]
theorem take_next {l : List RedT} {k : Nat} {r : RedT} (hr : l[k]? = some r) : l.take (k + 1) = l.take k ++ [r] := by
  have hk : k < l.length := (List.getElem?_eq_some_iff.1 hr).1
  have e : l[k] = r := (List.getElem?_eq_some_iff.1 hr).2
  rw [List.take_succ_eq_append_getElem hk, e]

theorem valid_agg (r : RedT) (w : World) (h : r.ok) : Calls Try.prog 49 #[.agg #[.int .i64 r.c, .int .i64 r.i, .int .i64 (hiI r.v), .int .u64 (loI r.v), .int .i64 r.l, .int .i64 r.m]] w fun e w' => e = .returned (.bool r.valid) ∧ Below w.heap.size w w' :=
  mvalid_any r.c r.i r.v r.l r.m w h.2.2.1 h.2.2.2.1 h.2.2.2.2
theorem join_agg (a r : RedT) (w : World) (h1 : 0 ≤ a.c ∧ a.c ≤ 1073741824) (h2 : 0 ≤ r.c ∧ r.c ≤ 1073741824) (h3 : 0 ≤ a.i ∧ a.i ≤ 1073741824) (h4 : 0 ≤ r.i ∧ r.i ≤ 1073741824) :
    Calls Try.prog 50 #[.agg #[.int .i64 a.c, .int .i64 a.i, .int .i64 (hiI a.v), .int .u64 (loI a.v), .int .i64 a.l, .int .i64 a.m], .agg #[.int .i64 r.c, .int .i64 r.i, .int .i64 (hiI r.v), .int .u64 (loI r.v), .int .i64 r.l, .int .i64 r.m]] w fun e w' => e = .returned (.agg #[.int .i64 (a.join r).c, .int .i64 (a.join r).i, .int .i64 (hiI (a.join r).v), .int .u64 (loI (a.join r).v), .int .i64 (a.join r).l, .int .i64 (a.join r).m]) ∧ Below w.heap.size w w' :=
  join_any a.c a.i a.v a.l a.m r.c r.i r.v r.l r.m w h1 h2 h3 h4

set_option maxRecDepth 20000 in
set_option maxHeartbeats 2000000 in
theorem joinAll_any (A : Option Addr) (n c B : Nat) (l : List RedT) (w : World) (h : Reds w B A n l) (hB : B ≤ w.heap.size) (hok : ∀ r ∈ l, r.ok) (hn : n ≤ 1000000) :
    Calls Try.prog 31 #[.slice A n c] w fun e w' => e = .returned (.tuple #[(jall l).1.val, .int .i64 (jall l).2]) ∧ Below w.heap.size w w' := by
  have hlen := Lib.hid (reds_len h)
  go_enter Try.func31, Try.ntmps31
  go_wp2
  go_step3
  go_wp2
  obtain ⟨W1, hW1⟩ : ∃ W1, w.alloc (.cells #[.int .i64 0, .int .i64 0, .int .i64 0, .int .u64 0, .int .i64 0, .int .i64 0] 37) = W1 := ⟨_, rfl⟩
  have hb1 : Below w.heap.size w W1 := by rw [← hW1]; exact (Below.refl _ _).alloc (Nat.le_refl _) _
  have hs1 : Six W1 w.heap.size (.int .i64 0) (.int .i64 0) (.int .i64 0) (.int .u64 0) (.int .i64 0) (.int .i64 0) := by rw [← hW1]; exact Six.new _ _ _ _ _ _ _ _
  have hl1 : Reds W1 B A n l := by rw [← hW1]; exact h.alloc hB _
  rw [hW1]
  clear hW1
  have HS1 := Lib.hid hs1
  have HL1 := Lib.hid hl1
  clear hs1 hl1
  go_loopw [12] (fun x wr => ∃ k : Nat, k ≤ n ∧ x = .int .i64 (k : Int) ∧ Below W1.heap.size W1 wr ∧ Hid ((l.take k).all RedT.valid = true)) (fun x _ => n - (intOf x).toNat)
  case atStart => exact ⟨0, Nat.zero_le _, rfl, Below.refl _ _, Lib.hid rfl⟩
  case round =>
    obtain ⟨k, hk, rfl, hbr, Hv⟩ := hrel
    by_cases hlt : k < n
    · obtain ⟨b, off, r, rfl, hbB, hr, x0, x1, x2, x3, x4, x5⟩ := reds_cell (HL1.out.below (hbr.mono (by have := hb1.size; omega))) hlt
      have hrok : r.ok := hok r (List.mem_of_getElem? hr)
      have sbr := hbr.size
      go_wp2_with fail
      refine (valid_agg r _ hrok).mono ?_
      rintro e w2 ⟨rfl, hb2⟩
      have hbn : Below W1.heap.size W1 w2 := (hbr.alloc sbr _).trans (hb2.mono (by simp; omega))
      by_cases hv : r.valid = true
      · have Hn := Lib.hid (all_take Hv.out hr hv)
        rw [hv]
        clear hv hr hrok x0 x1 x2 x3 x4 x5
        go_wp2
        go_roundw
        case rel => exact ⟨k + 1, by omega, by go_num, hbn, Hn⟩
        case measure => simp [intOf]; omega
      · have hv2 : r.valid = false := by simpa using hv
        have HJ := Lib.hid (all_bad hr hv2)
        obtain ⟨⟨r0, r1, r2, r3, r4, r5⟩, f0, f1, f2, f3, f4, f5⟩ := HS1.out.below hbn rfl
        have hbz := hb1.trans (hbn.mono hb1.size)
        rw [hv2]
        clear hv hv2 hr hrok x0 x1 x2 x3 x4 x5 hb2 hbn hbr
        go_wp2
        rw [Exit.noGoto_ret]
        refine bodyPost_ret (v := .tuple #[.agg #[.int .i64 0, .int .i64 0, .int .i64 0, .int .u64 0, .int .i64 0, .int .i64 0], .int .i64 230]) ?_ rfl ⟨?_, below_set6 hbz (Nat.le_refl _)⟩
        · simp [results, Try.results31, go_sem, *]
        · rw [HJ.out]
          unfold RedT.val redV RedT.zero
          rw [hl_zero.1, hl_zero.2]
    · have hkn : k = n := by omega
      have Hall := Lib.hid (show l.all RedT.valid = true by
        have := Hv.out
        rwa [List.take_of_length_le (by rw [hlen.out]; omega)] at this)
      obtain ⟨G, hG⟩ : ∃ G, wr.heap.size = G := ⟨_, rfl⟩
      have hGW : W1.heap.size ≤ G := by rw [← hG]; exact hbr.size
      have hw1 : w.heap.size ≤ W1.heap.size := hb1.size
      obtain ⟨W2, hW2⟩ : ∃ W2, wr.alloc (.cells #[.int .i64 0, .int .i64 0, .int .i64 0, .int .u64 0, .int .i64 0, .int .i64 0] 37) = W2 := ⟨_, rfl⟩
      have hb2 : Below W1.heap.size W1 W2 := by rw [← hW2]; exact hbr.alloc hbr.size _
      have hs2 : Six W2 G (.int .i64 0) (.int .i64 0) (.int .i64 0) (.int .u64 0) (.int .i64 0) (.int .i64 0) := by rw [← hW2, ← hG]; exact Six.new _ _ _ _ _ _ _ _
      have HS2 := Lib.hid hs2
      have HW2 := Lib.hid hW2
      have HG := Lib.hid hG
      clear hkn hs2 hW2 hG
      go_wp2_with fail
      go_step3
      go_upto_block 2 with fail
      rw [HG.out, HW2.out]
      clear HG HW2 Hv hbr
      go_cut [7] (fun x wx => ∃ (a : RedT) (e : Int), x = .int .i64 e ∧ Below W1.heap.size W1 wx ∧ Six wx G (.int .i64 a.c) (.int .i64 a.i) (.int .i64 (hiI a.v)) (.int .u64 (loI a.v)) (.int .i64 a.l) (.int .i64 a.m) ∧ Hid (jall l = (a, e)))
      case first =>
        go_wp2_with fail
        go_loopw [7, 24] (fun y x wr' => ∃ (k : Nat) (a : RedT), k ≤ n ∧ y = .int .i64 0 ∧ x = .int .i64 (k : Int) ∧ Below W1.heap.size W1 wr' ∧ Six wr' G (.int .i64 a.c) (.int .i64 a.i) (.int .i64 (hiI a.v)) (.int .u64 (loI a.v)) (.int .i64 a.l) (.int .i64 a.m) ∧ Hid (jrun (l.take k) RedT.zero = (a, 0)) ∧ 0 ≤ a.i ∧ a.i ≤ a.c ∧ a.c ≤ 1073741824) (fun _ x _ => n - (intOf x).toNat)
        case atStart =>
          refine ⟨0, RedT.zero, Nat.zero_le _, rfl, rfl, hb2, ?_, Lib.hid rfl, by decide, by decide, by decide⟩
          have := HS2.out
          unfold RedT.zero
          rw [hl_zero.1, hl_zero.2]
          exact this
        case round =>
          obtain ⟨k, a, hk, rfl, rfl, hbr, hsix, Hj, ha0, ha1, ha2⟩ := hrel
          by_cases hlt : k < n
          · obtain ⟨b, off, r, rfl, hbB, hr, x0, x1, x2, x3, x4, x5⟩ := reds_cell (HL1.out.below (hbr.mono (by omega))) hlt
            have hvb := valid_bounds r (List.all_eq_true.1 Hall.out r (List.mem_of_getElem? hr))
            obtain ⟨⟨v0, v1⟩, v2, v3⟩ := hvb
            obtain ⟨G2, hG2⟩ : ∃ G2, wr.heap.size = G2 := ⟨_, rfl⟩
            have hGG : W1.heap.size ≤ G2 := by rw [← hG2]; exact hbr.size
            obtain ⟨W3, hW3⟩ : ∃ W3, wr.alloc (.cells #[.int .i64 r.c, .int .i64 r.i, .int .i64 (hiI r.v), .int .u64 (loI r.v), .int .i64 r.l, .int .i64 r.m] 37) = W3 := ⟨_, rfl⟩
            have hb3 : Below W1.heap.size W1 W3 := by rw [← hW3]; exact hbr.alloc hbr.size _
            have hs3 : Six W3 G2 (.int .i64 r.c) (.int .i64 r.i) (.int .i64 (hiI r.v)) (.int .u64 (loI r.v)) (.int .i64 r.l) (.int .i64 r.m) := by rw [← hW3, ← hG2]; exact Six.new _ _ _ _ _ _ _ _
            have ha3 : Six W3 G (.int .i64 a.c) (.int .i64 a.i) (.int .i64 (hiI a.v)) (.int .u64 (loI a.v)) (.int .i64 a.l) (.int .i64 a.m) := by rw [← hW3]; exact hsix.alloc _
            have HW3 := Lib.hid hW3
            have HG2 := Lib.hid hG2
            have HR := Lib.hid hr
            clear hW3 hG2 hsix hr
            go_upto_region 11 with fail
            rw [HG2.out, HW3.out]
            clear HG2 HW3 hbr x0 x1 x2 x3 x4 x5
            have HA3 := Lib.hid ha3
            obtain ⟨⟨r0, r1, r2, r3, r4, r5⟩, -⟩ := hs3
            obtain ⟨⟨q0, q1, q2, q3, q4, q5⟩, f0, f1, f2, f3, f4, f5⟩ := ha3
            by_cases hov : 1073741824 - a.c < r.c
            · have Hx := Lib.hid (show jall l = (RedT.zero, 5) by
                have e := jrun_go (l.take k) r a RedT.zero Hj.out
                rw [if_pos hov, ← take_next HR.out] at e
                have e2 := jrun_over (l.take (k + 1)) (l.drop (k + 1)) RedT.zero (by rw [e]; decide)
                rw [List.take_append_drop] at e2
                rw [jall_of l Hall.out, e2, e])
              go_wp2_with fail
              go_meet
              case rel =>
                refine ⟨RedT.zero, 5, rfl, below_set6 hb3 hGW, ?_, Hx⟩
                unfold RedT.zero
                rw [hl_zero.1, hl_zero.2]
                exact ((((((HA3.out.s0 _).s1 _).s2 _).s3 _).s4 _).s5 _)
            · have Hn := Lib.hid (show jrun (l.take (k + 1)) RedT.zero = (a.join r, 0) by
                have e := jrun_go (l.take k) r a RedT.zero Hj.out
                rw [if_neg hov, ← take_next HR.out] at e
                exact e)
              go_wp2_with fail
              refine (join_agg a r _ ⟨by omega, ha2⟩ ⟨v0, v1⟩ ⟨ha0, by omega⟩ ⟨v2, by omega⟩).mono ?_
              rintro e w4 ⟨rfl, hb4⟩
              have s3 := hb3.size
              have hb5 : Below W1.heap.size W1 w4 := hb3.trans (hb4.mono s3)
              have HA4 := Lib.hid (HA3.out.below hb4 rfl)
              obtain ⟨⟨p0, p1, p2, p3, p4, p5⟩, g0, g1, g2, g3, g4, g5⟩ := HA4.out
              have hj1 : 0 ≤ (a.join r).i := by unfold RedT.join; simp only; omega
              have hj2 : (a.join r).i ≤ (a.join r).c := by unfold RedT.join; simp only; omega
              have hj3 : (a.join r).c ≤ 1073741824 := by unfold RedT.join; simp only; omega
              generalize a.join r = a' at *
              clear r0 r1 r2 r3 r4 r5 q0 q1 q2 q3 q4 q5 f0 f1 f2 f3 f4 f5 hov hb3 hb4 HA3 HR
              go_wp2_with fail
              go_roundw
              case rel => exact ⟨k + 1, a', by omega, rfl, by go_num, below_set6 hb5 hGW, ((((((HA4.out.s0 _).s1 _).s2 _).s3 _).s4 _).s5 _), Hn, hj1, hj2, hj3⟩
              case measure => simp [intOf]; omega
          · have Hx := Lib.hid (show jall l = (a, 0) by
              rw [jall_of l Hall.out]
              have := Hj.out
              rwa [List.take_of_length_le (by rw [hlen.out]; omega)] at this)
            go_wp2_with fail
            go_meet
            case rel => exact ⟨a, 0, rfl, hbr, hsix, Hx⟩
      case rest =>
        obtain ⟨a, e, rfl, hbx, hsx, Hx⟩ := hcut
        have hzz := HS1.out.below hbx rfl
        have hbz := hb1.trans (hbx.mono hw1)
        obtain ⟨⟨r0, r1, r2, r3, r4, r5⟩, f0, f1, f2, f3, f4, f5⟩ := hzz
        obtain ⟨⟨k0, k1, k2, k3, k4, k5⟩, _⟩ := hsx
        clear hbx hb2
        go_wp2
        rw [Exit.noGoto_ret]
        refine bodyPost_ret (v := .tuple #[.agg #[.int .i64 a.c, .int .i64 a.i, .int .i64 (hiI a.v), .int .u64 (loI a.v), .int .i64 a.l, .int .i64 a.m], .int .i64 e]) ?_ rfl ⟨?_, below_set6 hbz (Nat.le_refl _)⟩
        · simp [results, Try.results31, go_sem, *]
        · rw [Hx.out]
          rfl
end Go.Proofs.Ytnfohlabmidliaa
/-
  Rows of an argument, cell by cell: flat_len, flat_get, shows_rows.
-/
namespace Go.Proofs.Ytnfohlabmidliaa
open Go.ChangeShapes Go.WideShapes Go.ChangeAt Go.RowKit Go.Deep
set_option linter.unusedVariables false

theorem flat_len {α : Type} (f : α → List Value) (k : Nat) (hf : ∀ x, (f x).length = k) : ∀ l : List α, (l.flatMap f).length = l.length * k
  | [] => by simp
  | x :: l => by rw [List.flatMap_cons, List.length_append, flat_len f k hf l, hf, List.length_cons, Nat.add_mul]; omega
theorem flat_get {α : Type} (f : α → List Value) (k : Nat) (hf : ∀ x, (f x).length = k) : ∀ (l : List α) (i j : Nat) (hi : i < l.length) (_ : j < k), (l.flatMap f)[i * k + j]? = (f (l[i]'hi))[j]?
  | x :: l, 0, j, _, hj => by
    rw [List.flatMap_cons, List.getElem?_append_left (by rw [hf]; omega)]
    simp
  | x :: l, i + 1, j, hi, hj => by
    have e : (i + 1) * k + j = (f x).length + (i * k + j) := by rw [hf, Nat.add_mul]; omega
    rw [List.flatMap_cons, e, List.getElem?_append_right (by omega), Nat.add_sub_cancel_left, flat_get f k hf l i j (by simpa using hi) hj]
    simp
/-- Rows of cells that are known one by one. -/
theorem shows_rows {α : Type} (f : α → List Value) (k : Nat) (hk : 0 < k) (hf : ∀ x, (f x).length = k) {w : World} {a : Addr} {n : Nat} (F : Nat → α) (h : ∀ i, i < n → ∀ j u, (f (F i))[j]? = some u → w.cell? (a.add (i * k + j)) = some u) :
    Shows w w.heap.size k (some a) n (((List.range n).map F).flatMap f) := by
  have hl : ((List.range n).map F).length = n := by simp
  refine ⟨by rw [flat_len f k hf, hl], fun hn => ?_⟩
  obtain ⟨b, off, spot⟩ := a
  have h00 : 0 < (f (F 0)).length := by rw [hf]; exact hk
  have hc0 := h 0 hn 0 _ (List.getElem?_eq_getElem h00)
  have hspot : spot = none := by simpa [Addr.add] using World.cell?_spot hc0
  subst hspot
  have hlt : b < w.heap.size := World.block_lt_of_cell? w _ (by simpa [Addr.add] using hc0)
  refine ⟨b, off, rfl, hlt, fun j u hu => ?_⟩
  have hj : j < (((List.range n).map F).flatMap f).length := (List.getElem?_eq_some_iff.1 hu).1
  rw [flat_len f k hf, hl] at hj
  have hd : j / k < n := Nat.div_lt_of_lt_mul (by rw [Nat.mul_comm]; exact hj)
  have hm : j % k < k := Nat.mod_lt _ hk
  have he : j = j / k * k + j % k := by rw [Nat.mul_comm]; exact (Nat.div_add_mod j k).symm
  rw [he, flat_get f k hf _ _ _ (by rw [hl]; exact hd) hm] at hu
  simp only [List.getElem_map, List.getElem_range] at hu
  have := h (j / k) hd (j % k) u hu
  rw [addr_add, ← he] at this
  exact this

end Go.Proofs.Ytnfohlabmidliaa
