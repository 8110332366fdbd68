/-
  Layer 3: the deferred closure; the whole reading.
-/
import Derived.Test.YtchmchbgbchipaaDoorNumB
import Derived.Defers
import Derived.Recover
import Derived.Laws.Pointers
import Derived.Outline
import Derived.Laws.EntriesVeiled
import Derived.Deep.WholeRow
namespace Go.Proofs.YtchmchbgbchipaaDoor
open Go.RowKit

theorem catch_idle (p q : Addr) (w : World) :
    CallsD Tryd.prog 28 #[.pointer (some p), .pointer (some q)] .returning w fun e u' w' => e = .returned (.tuple #[]) ∧ u' = .returning ∧ w' = w := by
  refine callsD_of_wpS Tryd.func28 rfl fun c₀ cs hu => ?_
  apply wpS_seq
  apply wpS_region
  simp [wpOpsS, go_sem, recoverD, hu, Tryd.ntmps28, Exit.thenS]
  apply wpS_seq
  apply wpS_region
  simp [wpOpsS, go_sem, Exit.thenS, Array.replicate]
  refine wpS_cond (t := false) (by simp [Act.eval]) ?_
  simp only [Bool.false_eq_true, if_false]
  refine wpS_of_wp (wp_skip ?_)
  cases c₀
  simp_all [bodyPostS, results, Tryd.results28]
set_option maxRecDepth 20000 in
theorem catch_fault (g : Nat) (x : Int) (y : Bool) (n : Int) (older : List PanicEntry) (w : World) (h : w.cell? ⟨g, 0, none⟩ = some (.int .i64 x)) (hf : w.frozen? ⟨g, 0, none⟩ = false) (h' : w.cell? ⟨g + 1, 0, none⟩ = some (.bool y)) (hf' : w.frozen? ⟨g + 1, 0, none⟩ = false) :
    CallsD Tryd.prog 28 #[.pointer (some ⟨g, 0, none⟩), .pointer (some ⟨g + 1, 0, none⟩)] (.panicking ({ v := .iface 61 (.agg #[.int .i64 n]), recovered := false } :: older)) w fun e u' w' =>
      e = .returned (.tuple #[]) ∧ u' = .panicking ({ v := .iface 61 (.agg #[.int .i64 n]), recovered := true } :: older) ∧ w' = ((w.setCell ⟨g, 0, none⟩ (.int .i64 n)).setCell ⟨g + 1, 0, none⟩ (.bool true)).alloc (.cells #[.int .i64 n] 61) := by
  have ha : ∀ W, (Instr.typeAssert (.iface 61 (.agg #[.int .i64 n])) 20 61 true).run Tryd.prog W = .ok (.tuple #[.agg #[.int .i64 n], .bool true]) W := fun _ => by kernel_rfl
  have hlp : g < w.heap.size := World.block_lt_of_cell? w _ h
  have hlq : g + 1 < w.heap.size := World.block_lt_of_cell? w _ h'
  have k1 := cell_keep h (.cells #[.int .i64 n] 61)
  have k2 := cell_keep h' (.cells #[.int .i64 n] 61)
  have k3 := (frozen_keep h (.cells #[.int .i64 n] 61)).trans hf
  have k4 := (frozen_keep h' (.cells #[.int .i64 n] 61)).trans hf'
  refine callsD_of_wpS Tryd.func28 rfl fun c₀ cs hu => ?_
  apply wpS_seq
  apply wpS_region
  simp [wpOpsS, go_sem, recoverD, hu, Tryd.ntmps28, Exit.thenS]
  apply wpS_seq
  apply wpS_region
  simp [wpOpsS, go_sem, Exit.thenS, Array.replicate]
  refine wpS_cond (t := true) (by simp [Act.eval]) ?_
  simp only [if_true]
  refine wpS_of_wp ?_
  have HU := Lib.hid hu
  clear hu
  go_wp2
  cases c₀
  simp_all [bodyPostS, results, Tryd.results28]

theorem one_cell {w : World} {g : Nat} {v : Value} {t : TypeId} (h : w.heap[g]? = some (.cells #[v] t (0, 0))) : w.cell? ⟨g, 0, none⟩ = some v := by simp [World.cell?, h]
theorem one_free {w : World} {g : Nat} {v : Value} {t : TypeId} (h : w.heap[g]? = some (.cells #[v] t (0, 0))) : w.frozen? ⟨g, 0, none⟩ = false := by simp [World.frozen?, h]
theorem set_far {w : World} {a k : Nat} (v : Value) (h : k ≠ a) : (w.setCell ⟨a, 0, none⟩ v).heap[k]? = w.heap[k]? := Below.heap_setCell _ _ _ k (fun e => h e)
theorem cat_cells {w : World} {a : Nat} {v1 v2 : Value} {t1 t2 : TypeId} (k1 : w.heap[a]? = some (.cells #[v1] t1 (0, 0))) (k2 : w.heap[a + 1]? = some (.cells #[v2] t2 (0, 0))) (u1 u2 : Value) (o : Obj) :
    (((w.setCell ⟨a, 0, none⟩ u1).setCell ⟨a + 1, 0, none⟩ u2).alloc o).cell? ⟨a, 0, none⟩ = some u1 ∧ (((w.setCell ⟨a, 0, none⟩ u1).setCell ⟨a + 1, 0, none⟩ u2).alloc o).cell? ⟨a + 1, 0, none⟩ = some u2 := by
  constructor
  · refine cell_keep ?_ o
    rw [World.cell?_setCell_other _ _ _ _ (by intro e; injection e with e; omega)]
    exact cell_set (one_cell k1) u1
  · refine cell_keep ?_ o
    refine cell_set (v := v2) ?_ u2
    rw [World.cell?_setCell_other _ _ _ _ (by intro e; injection e with e; omega)]
    exact one_cell k2
theorem cat_only {w w2 : World} {g a : Nat} (h : Only g w w2) (ha : w.heap.size ≤ a) (u1 u2 : Value) (o : Obj) : Only g w (((w2.setCell ⟨a, 0, none⟩ u1).setCell ⟨a + 1, 0, none⟩ u2).alloc o) := by
  have e1 : (w2.setCell ⟨a, 0, none⟩ u1).heap.size = w2.heap.size := size_set _ _ _
  have e2 : ((w2.setCell ⟨a, 0, none⟩ u1).setCell ⟨a + 1, 0, none⟩ u2).heap.size = w2.heap.size := by rw [size_set, size_set]
  refine ⟨h.os, h.tape, h.output, ?_, fun k hk hn => ?_⟩
  · have := h.size
    have e3 : (((w2.setCell ⟨a, 0, none⟩ u1).setCell ⟨a + 1, 0, none⟩ u2).alloc o).heap.size = w2.heap.size + 1 := by rw [World.size_alloc, e2]
    omega
  · have := h.size
    rw [heap_alloc_old _ _ (by rw [e2]; omega), set_far _ (by omega), set_far _ (by omega)]
    exact h.block k hk hn
theorem set2_cells {w : World} {a : Nat} {v1 v2 : Value} {t1 t2 : TypeId} (k1 : w.heap[a]? = some (.cells #[v1] t1 (0, 0))) (k2 : w.heap[a + 1]? = some (.cells #[v2] t2 (0, 0))) (u1 u2 : Value) :
    ((w.setCell ⟨a, 0, none⟩ u1).setCell ⟨a + 1, 0, none⟩ u2).cell? ⟨a, 0, none⟩ = some u1 ∧ ((w.setCell ⟨a, 0, none⟩ u1).setCell ⟨a + 1, 0, none⟩ u2).cell? ⟨a + 1, 0, none⟩ = some u2 := by
  constructor
  · rw [World.cell?_setCell_other _ _ _ _ (by intro e; injection e with e; omega)]
    exact cell_set (one_cell k1) u1
  · refine cell_set (v := v2) ?_ u2
    rw [World.cell?_setCell_other _ _ _ _ (by intro e; injection e with e; omega)]
    exact one_cell k2
theorem set2_only {w w2 : World} {g a : Nat} (h : Only g w w2) (ha : w.heap.size ≤ a) (u1 u2 : Value) : Only g w ((w2.setCell ⟨a, 0, none⟩ u1).setCell ⟨a + 1, 0, none⟩ u2) := by
  refine ⟨h.os, h.tape, h.output, ?_, fun k hk hn => ?_⟩
  · rw [size_set, size_set]; exact h.size
  · rw [set_far _ (by omega), set_far _ (by omega)]
    exact h.block k hk hn
theorem rd_cat {w : World} {g p n c a : Nat} {A : Option Addr} {part : Bool} (h : Rd w g p A n c part) (hg : g < a) (u1 u2 : Value) : Rd ((w.setCell ⟨a, 0, none⟩ u1).setCell ⟨a + 1, 0, none⟩ u2) g p A n c part := by
  unfold Rd at h ⊢
  rw [set_far _ (by omega), set_far _ (by omega)]
  exact h
/-- What numeral tells. -/
def NumEnds (l : List UInt8) (p g : Nat) (A : Option Addr) (n c : Nat) (w : World) (e : Ending) (w' : World) : Prop :=
  (((scanP l p).2.2 = true ∧ e = .returned (.tuple #[.int .i64 0, .bool false]) ∧ Rd w' g (scanP l p).1 A n c (scanP l p).2.1) ∨ ((scanP l p).2.2 = false ∧ e = .returned (.tuple #[.int .i64 ((scanP l p).1 : Int), .bool true]))) ∧ Only g w w'
/-- Where the reading stands when k of its parts are over. -/
def Phase (l : List UInt8) (p k q : Nat) (part : Bool) : Prop :=
  (k = 0 ∧ q = p ∧ part = false) ∨ (k = 1 ∧ q = signP l p ∧ part = false) ∨ (k = 2 ∧ q = (wholeP l (signP l p)).1 ∧ part = false ∧ (wholeP l (signP l p)).2 = true) ∨
  (k = 3 ∧ (wholeP l (signP l p)).2 = true ∧ (fracP l (wholeP l (signP l p)).1).2.2 = true ∧ q = (fracP l (wholeP l (signP l p)).1).1 ∧ part = (fracP l (wholeP l (signP l p)).1).2.1) ∨
  (k = 4 ∧ (scanP l p).2.2 = true ∧ q = (scanP l p).1 ∧ part = (scanP l p).2.1)
theorem scan_no1 {l : List UInt8} {p : Nat} (h : (wholeP l (signP l p)).2 = false) : scanP l p = ((wholeP l (signP l p)).1, false, false) := by unfold scanP; rw [if_pos h]
theorem scan_no2 {l : List UInt8} {p : Nat} (h : (wholeP l (signP l p)).2 = true) (h2 : (fracP l (wholeP l (signP l p)).1).2.2 = false) : scanP l p = ((fracP l (wholeP l (signP l p)).1).1, true, false) := by
  unfold scanP; rw [if_neg (by rw [h]; simp), if_pos h2]
theorem scan_yes {l : List UInt8} {p : Nat} (h : (wholeP l (signP l p)).2 = true) (h2 : (fracP l (wholeP l (signP l p)).1).2.2 = true) : scanP l p = ((expoP l (fracP l (wholeP l (signP l p)).1).1).1, (fracP l (wholeP l (signP l p)).1).2.1 || (expoP l (fracP l (wholeP l (signP l p)).1).1).2.1, (expoP l (fracP l (wholeP l (signP l p)).1).1).2.2) := by
  unfold scanP; rw [if_neg (by rw [h]; simp), if_neg (by rw [h2]; simp)]

set_option maxRecDepth 20000 in
set_option maxHeartbeats 4000000 in
theorem numeral_any (g p : Nat) (A : Option Addr) (n c B : Nat) (l : List UInt8) (w : World) (h : Rd w g p A n c false) (hl : Bytes w B A n l) (hB : B ≤ g) (hp : p ≤ n) (hn : n ≤ maxLen) :
    Calls Tryd.prog 21 #[.pointer (some ⟨g, 0, none⟩)] w (NumEnds l p g A n c w) := by
  have hmf : ∀ (fn : Fn) (first cap : Array Value) (w : World), (Instr.makeFunc fn first cap).run Tryd.prog w = .ok (.func fn first cap) w := fun _ _ _ _ => rfl
  have hgl := h.lt
  have hpl : p ≤ l.length := by rw [hl.len]; exact hp
  have Hl := Lib.hid hl.len
  go_enter_defers Tryd.func21, Tryd.ntmps21
  go_wp2
  have hr0 : Rd (((w.alloc (.cells #[.int .i64 0] 3)).alloc (.cells #[.bool false] 4)).alloc (.cells #[.func (.func 29) #[] #[], .func (.func 30) #[] #[], .func (.func 31) #[] #[], .func (.func 32) #[] #[]] 64)) g p A n c false := ((h.alloc _).alloc _).alloc _
  have hl0 := ((hl.alloc (by omega) (.cells #[.int .i64 0] 3)).alloc (by simp; omega) (.cells #[.bool false] 4)).alloc (by simp; omega) (.cells #[.func (.func 29) #[] #[], .func (.func 30) #[] #[], .func (.func 31) #[] #[], .func (.func 32) #[] #[]] 64)
  have hw0 : Only g w (((w.alloc (.cells #[.int .i64 0] 3)).alloc (.cells #[.bool false] 4)).alloc (.cells #[.func (.func 29) #[] #[], .func (.func 30) #[] #[], .func (.func 31) #[] #[], .func (.func 32) #[] #[]] 64)) :=
    ((World.grownBy_alloc _ _ _ : Only g _ _).trans (World.grownBy_alloc _ _ _)).trans (World.grownBy_alloc _ _ _)
  have hb1 : (((w.alloc (.cells #[.int .i64 0] 3)).alloc (.cells #[.bool false] 4)).alloc (.cells #[.func (.func 29) #[] #[], .func (.func 30) #[] #[], .func (.func 31) #[] #[], .func (.func 32) #[] #[]] 64)).heap[w.heap.size]? = some (.cells #[.int .i64 0] 3 (0, 0)) := by
    refine (heap_alloc_old _ _ (by simp; omega)).trans ((heap_alloc_old _ _ (by simp)).trans (heap_alloc_new w _))
  have hb2 : (((w.alloc (.cells #[.int .i64 0] 3)).alloc (.cells #[.bool false] 4)).alloc (.cells #[.func (.func 29) #[] #[], .func (.func 30) #[] #[], .func (.func 31) #[] #[], .func (.func 32) #[] #[]] 64)).heap[w.heap.size + 1]? = some (.cells #[.bool false] 4 (0, 0)) := by
    refine (heap_alloc_old _ _ (by simp)).trans ?_
    have := heap_alloc_new (w.alloc (.cells #[.int .i64 0] 3)) (.cells #[.bool false] 4)
    simpa using this
  generalize ((w.alloc (.cells #[.int .i64 0] 3)).alloc (.cells #[.bool false] 4)).alloc (.cells #[.func (.func 29) #[] #[], .func (.func 30) #[] #[], .func (.func 31) #[] #[], .func (.func 32) #[] #[]] 64) = W0 at *
  have HB1 := Lib.hid hb1
  have HB2 := Lib.hid hb2
  have hg0 := hr0.lt
  clear hb1 hb2 h hl
  have ix0 : ∀ W, (Instr.index 64 (.agg #[.func (.func 29) #[] #[], .func (.func 30) #[] #[], .func (.func 31) #[] #[], .func (.func 32) #[] #[]]) (.int .i64 0)).run Tryd.prog W = .ok (.func (.func 29) #[] #[]) W := fun _ => by kernel_rfl
  have ix1 : ∀ W, (Instr.index 64 (.agg #[.func (.func 29) #[] #[], .func (.func 30) #[] #[], .func (.func 31) #[] #[], .func (.func 32) #[] #[]]) (.int .i64 1)).run Tryd.prog W = .ok (.func (.func 30) #[] #[]) W := fun _ => by kernel_rfl
  have ix2 : ∀ W, (Instr.index 64 (.agg #[.func (.func 29) #[] #[], .func (.func 30) #[] #[], .func (.func 31) #[] #[], .func (.func 32) #[] #[]]) (.int .i64 2)).run Tryd.prog W = .ok (.func (.func 31) #[] #[]) W := fun _ => by kernel_rfl
  have ix3 : ∀ W, (Instr.index 64 (.agg #[.func (.func 29) #[] #[], .func (.func 30) #[] #[], .func (.func 31) #[] #[], .func (.func 32) #[] #[]]) (.int .i64 3)).run Tryd.prog W = .ok (.func (.func 32) #[] #[]) W := fun _ => by kernel_rfl
  go_loopw [10] (fun i wr => ∃ (k q : Nat) (part : Bool), i = .int .i64 k ∧ k ≤ 4 ∧ Hid (Phase l p k q part) ∧ q ≤ n ∧ Rd wr g q A n c part ∧ Only g W0 wr) (fun i _ => 4 - (intOf i).toNat)
  case atStart => exact ⟨0, p, false, rfl, by omega, Lib.hid (.inl ⟨rfl, rfl, rfl⟩), hp, hr0, Only.refl _ _⟩
  case round =>
    obtain ⟨k, q, part, rfl, hk, HP, hq, hr, ho⟩ := hrel
    have hlr := bytes_only hl0 ho hB hg0
    rcases HP.out with ⟨rfl, rfl, rfl⟩ | ⟨rfl, hqe, rfl⟩ | ⟨rfl, hqe, rfl, h1⟩ | ⟨rfl, h1, h2, hqe, hpe⟩ | ⟨rfl, h1, hqe, hpe⟩
    · have hs := sign_any g q A n c B false l wr hr hlr hq hn
      have hle := step_le [45] l q hpl
      clear HP
      go_wp2_with fail
      refine hs.mono ?_
      rintro e w2 ⟨hor, hr2, ho2⟩
      obtain rfl : e = .returned (.tuple #[]) := by rcases hor with ⟨_, h⟩ | ⟨h, _⟩ <;> first | exact h | cases h
      clear hor
      go_wp2_with fail
      go_roundw
      case rel => exact ⟨1, signP l q, false, rfl, by omega, Lib.hid (.inr (.inl ⟨rfl, rfl, rfl⟩)), by rw [← Hl.out]; exact hle, hr2, ho.trans ho2⟩
      case measure => simp [intOf]
    · subst hqe
      have hs := whole_any g (signP l p) A n c B false l wr hr hlr hB hq hn
      have hle := whole_le l (signP l p) (by rw [Hl.out]; exact hq)
      clear HP
      generalize hx : wholeP l (signP l p) = x at *
      have HX := Lib.hid hx
      clear hx
      go_wp2_with fail
      refine hs.mono ?_
      rintro e w2 ⟨hor, hr2, ho2⟩
      rcases hor with ⟨hok, rfl⟩ | ⟨hok, rfl⟩
      · go_wp2_with fail
        go_roundw
        case rel => exact ⟨2, x.1, false, rfl, by omega, Lib.hid (.inr (.inr (.inl ⟨rfl, by rw [HX.out], rfl, by rw [HX.out]; exact hok⟩))), by rw [← Hl.out]; exact hle, hr2, ho.trans ho2⟩
        case measure => simp [intOf]
      · have HS : Hid (scanP l p = (x.1, false, false)) := by rw [scan_no1 (l := l) (p := p) (by rw [HX.out]; exact hok), HX.out]; exact Lib.hid rfl
        have ho' := ho.trans ho2
        have kb1 := ho'.other HB1.out (by omega)
        have kb2 := ho'.other HB2.out (by omega)
        have hcat := catch_fault w.heap.size 0 false x.1 [] w2 (one_cell kb1) (one_free kb1) (one_cell kb2) (one_free kb2)
        go_wp2
        refine leaves_cons (f := 28) (args := #[.pointer (some ⟨w.heap.size, 0, none⟩), .pointer (some ⟨w.heap.size + 1, 0, none⟩)]) (by simp) (by simp [go_sem]) ?_
        refine hcat.mono ?_
        rintro e u' w'' ⟨rfl, rfl, hw⟩
        obtain ⟨z1, z2⟩ := cat_cells kb1 kb2 (.int .i64 x.1) (.bool true) (.cells #[.int .i64 x.1] 61)
        have z3 := cat_only (hw0.trans ho') (Nat.le_refl _) (.int .i64 x.1) (.bool true) (.cells #[.int .i64 x.1] 61)
        rw [← hw] at z1 z2 z3
        clear hw kb1 kb2 hcat
        simp [Leaves, settle, results, Tryd.results21, go_sem, z1, z2]
        exact ⟨.inr ⟨by rw [HS.out], by rw [HS.out]⟩, z3⟩
    · subst hqe
      have hs := fraction_any g (wholeP l (signP l p)).1 A n c B l wr hr hlr hB hq hn
      have hle := frac_le l (wholeP l (signP l p)).1 (by rw [Hl.out]; exact hq)
      clear HP
      have H1 := Lib.hid h1
      clear h1
      generalize hx : fracP l (wholeP l (signP l p)).1 = x at *
      have HX := Lib.hid hx
      clear hx
      generalize hq' : (wholeP l (signP l p)).1 = q at *
      have HQ := Lib.hid hq'
      clear hq'
      go_wp2_with fail
      refine hs.mono ?_
      rintro e w2 ⟨hor, hr2, ho2⟩
      rcases hor with ⟨hok, rfl⟩ | ⟨hok, rfl⟩
      · go_wp2_with fail
        go_roundw
        case rel => exact ⟨3, x.1, x.2.1, rfl, by omega, Lib.hid (.inr (.inr (.inr (.inl ⟨rfl, H1.out, by rw [HQ.out, HX.out]; exact hok, by rw [HQ.out, HX.out], by rw [HQ.out, HX.out]⟩)))), by rw [← Hl.out]; exact hle, hr2, ho.trans ho2⟩
        case measure => simp [intOf]
      · have HS : Hid (scanP l p = (x.1, true, false)) := by rw [scan_no2 (l := l) (p := p) H1.out (by rw [HQ.out, HX.out]; exact hok), HQ.out, HX.out]; exact Lib.hid rfl
        have ho' := ho.trans ho2
        have kb1 := ho'.other HB1.out (by omega)
        have kb2 := ho'.other HB2.out (by omega)
        have hcat := catch_fault w.heap.size 0 false x.1 [] w2 (one_cell kb1) (one_free kb1) (one_cell kb2) (one_free kb2)
        go_wp2
        refine leaves_cons (f := 28) (args := #[.pointer (some ⟨w.heap.size, 0, none⟩), .pointer (some ⟨w.heap.size + 1, 0, none⟩)]) (by simp) (by simp [go_sem]) ?_
        refine hcat.mono ?_
        rintro e u' w'' ⟨rfl, rfl, hw⟩
        obtain ⟨z1, z2⟩ := cat_cells kb1 kb2 (.int .i64 x.1) (.bool true) (.cells #[.int .i64 x.1] 61)
        have z3 := cat_only (hw0.trans ho') (Nat.le_refl _) (.int .i64 x.1) (.bool true) (.cells #[.int .i64 x.1] 61)
        rw [← hw] at z1 z2 z3
        clear hw kb1 kb2 hcat
        simp [Leaves, settle, results, Tryd.results21, go_sem, z1, z2]
        exact ⟨.inr ⟨by rw [HS.out], by rw [HS.out]⟩, z3⟩
    · subst hqe hpe
      have hs := exponent_any g (fracP l (wholeP l (signP l p)).1).1 A n c B (fracP l (wholeP l (signP l p)).1).2.1 l wr hr hlr hB hq hn
      have hle := expo_le l (fracP l (wholeP l (signP l p)).1).1 (by rw [Hl.out]; exact hq)
      have HY := Lib.hid (scan_yes h1 h2)
      clear HP h1 h2
      generalize hx : expoP l (fracP l (wholeP l (signP l p)).1).1 = x at *
      clear hx
      generalize (fracP l (wholeP l (signP l p)).1).2.1 = b at *
      generalize (fracP l (wholeP l (signP l p)).1).1 = q at *
      go_wp2_with fail
      refine hs.mono ?_
      rintro e w2 ⟨hor, hr2, ho2⟩
      rcases hor with ⟨hok, rfl⟩ | ⟨hok, rfl⟩
      · go_wp2_with fail
        go_roundw
        case rel => exact ⟨4, x.1, (b || x.2.1), rfl, by omega, Lib.hid (.inr (.inr (.inr (.inr ⟨rfl, by rw [HY.out]; exact hok, by rw [HY.out], by rw [HY.out]⟩)))), by rw [← Hl.out]; exact hle, hr2, ho.trans ho2⟩
        case measure => simp [intOf]
      · have HS : Hid ((scanP l p).1 = x.1 ∧ (scanP l p).2.2 = false) := by rw [HY.out]; exact Lib.hid ⟨rfl, hok⟩
        have ho' := ho.trans ho2
        have kb1 := ho'.other HB1.out (by omega)
        have kb2 := ho'.other HB2.out (by omega)
        have hcat := catch_fault w.heap.size 0 false x.1 [] w2 (one_cell kb1) (one_free kb1) (one_cell kb2) (one_free kb2)
        go_wp2
        refine leaves_cons (f := 28) (args := #[.pointer (some ⟨w.heap.size, 0, none⟩), .pointer (some ⟨w.heap.size + 1, 0, none⟩)]) (by simp) (by simp [go_sem]) ?_
        refine hcat.mono ?_
        rintro e u' w'' ⟨rfl, rfl, hw⟩
        obtain ⟨z1, z2⟩ := cat_cells kb1 kb2 (.int .i64 x.1) (.bool true) (.cells #[.int .i64 x.1] 61)
        have z3 := cat_only (hw0.trans ho') (Nat.le_refl _) (.int .i64 x.1) (.bool true) (.cells #[.int .i64 x.1] 61)
        rw [← hw] at z1 z2 z3
        clear hw kb1 kb2 hcat
        simp [Leaves, settle, results, Tryd.results21, go_sem, z1, z2]
        exact ⟨.inr ⟨HS.out.2, by rw [HS.out.1]⟩, z3⟩
    · subst hqe hpe
      have H1 := Lib.hid h1
      clear HP h1 hpl
      have hw1 := hw0.trans ho
      have kb1 := ho.other HB1.out (by omega)
      have kb2 := ho.other HB2.out (by omega)
      have d1 := one_cell kb1
      have d2 := one_cell kb2
      have f1 := one_free kb1
      have f2 := one_free kb2
      clear hl0 hlr hr0 ho hw0
      generalize hs : scanP l p = x at *
      have HS := Lib.hid hs
      clear hs hmf
      go_wp2
      refine leaves_cons (f := 28) (args := #[.pointer (some ⟨w.heap.size, 0, none⟩), .pointer (some ⟨w.heap.size + 1, 0, none⟩)]) (by simp) (by simp [go_sem]) ?_
      refine (catch_idle _ _ _).mono ?_
      rintro e u' w'' ⟨rfl, rfl, hw⟩
      obtain ⟨z1, z2⟩ := set2_cells kb1 kb2 (.int .i64 0) (.bool false)
      have z3 := set2_only hw1 (Nat.le_refl _) (.int .i64 0) (.bool false)
      have z4 := rd_cat hr hgl (.int .i64 0) (.bool false)
      rw [← hw] at z1 z2 z3 z4
      clear hw kb1 kb2 hw1 d1 d2 f1 f2 ix0 ix1 ix2 ix3
      simp [Leaves, settle, results, Tryd.results21, go_sem, z1, z2]
      exact ⟨.inl ⟨by rw [HS.out]; exact H1.out, rfl, by rw [HS.out]; exact z4⟩, z3⟩
end Go.Proofs.YtchmchbgbchipaaDoor
