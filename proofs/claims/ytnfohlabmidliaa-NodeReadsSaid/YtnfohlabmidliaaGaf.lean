import Derived.Test.YtnfohlabmidliaaGad
import Derived.Deep.RegionHeld3
import Derived.Test.YtnfohlabmidliaaGae
import Derived.Handy
import Derived.Maps.Range
import Derived.Test.YtnfohlabmidliaaRows
/-
  Layer 13: all: the reduction of rows, one by one.
-/
namespace Go.Proofs.Ytnfohlabmidliaa
open Go.RowKit
attribute [local go_sem ↓] Go.wp_at_zero Go.wp_at_succ

theorem items_len {w : World} {B : Nat} {A : Option Addr} {n : Nat} {l : List ItemT} (h : Items w B A n l) : l.length = n := by
  have h1 := h.1
  rw [flat_len ItemT.cells 4 (fun _ => rfl)] at h1
  omega
theorem items_cell {w : World} {B : Nat} {A : Option Addr} {n : Nat} {l : List ItemT} (h : Items w B A n l) {k : Nat} (hk : k < n) : ∃ (b off : Nat) (x : ItemT), A = some ⟨b, off, none⟩ ∧ b < B ∧ l[k]? = some x ∧
    w.cell? ⟨b, off + k * 4, none⟩ = some (.slice x.A1 x.n1 x.c1) ∧ w.cell? ⟨b, off + k * 4 + 1, none⟩ = some (.slice x.A2 x.n2 x.c2) ∧ w.cell? ⟨b, off + k * 4 + 2, none⟩ = some (.bool x.b) ∧ w.cell? ⟨b, off + k * 4 + 3, none⟩ = some (.int .i64 x.n) := by
  have hl := items_len h
  obtain ⟨b, off, rfl, hb, hc⟩ := h.2 (by omega)
  have hk' : k < l.length := by omega
  have hg := fun j hj => flat_get ItemT.cells 4 (fun _ => rfl) l k j hk' hj
  exact ⟨b, off, l[k], rfl, hb, List.getElem?_eq_getElem hk', hc (k * 4 + 0) _ ((hg 0 (by omega)).trans rfl), hc (k * 4 + 1) _ ((hg 1 (by omega)).trans rfl), hc (k * 4 + 2) _ ((hg 2 (by omega)).trans rfl), hc (k * 4 + 3) _ ((hg 3 (by omega)).trans rfl)⟩
theorem Six.under {w w1 : World} {g B : Nat} {a b c d e f : Value} (h : Six w g a b c d e f) (hb : Below B w w1) (hg : g < B) : Six w1 g a b c d e f := by
  obtain ⟨⟨r0, r1, r2, r3, r4, r5⟩, f0, f1, f2, f3, f4, f5⟩ := h
  exact ⟨⟨(hb.cell (p := ⟨g, 0, none⟩) hg).trans r0, (hb.cell (p := ⟨g, 1, none⟩) hg).trans r1, (hb.cell (p := ⟨g, 2, none⟩) hg).trans r2, (hb.cell (p := ⟨g, 3, none⟩) hg).trans r3, (hb.cell (p := ⟨g, 4, none⟩) hg).trans r4, (hb.cell (p := ⟨g, 5, none⟩) hg).trans r5⟩,
    (hb.frozen (p := ⟨g, 0, none⟩) hg).trans f0, (hb.frozen (p := ⟨g, 1, none⟩) hg).trans f1, (hb.frozen (p := ⟨g, 2, none⟩) hg).trans f2, (hb.frozen (p := ⟨g, 3, none⟩) hg).trans f3, (hb.frozen (p := ⟨g, 4, none⟩) hg).trans f4, (hb.frozen (p := ⟨g, 5, none⟩) hg).trans f5⟩
/-- A reduction's six cells in a variable. -/
def SixR (w : World) (g : Nat) (a : RedT) : Prop := Six w g (.int .i64 a.c) (.int .i64 a.i) (.int .i64 (hiI a.v)) (.int .u64 (loI a.v)) (.int .i64 a.l) (.int .i64 a.m)
theorem join_two (a r : RedT) (g : Nat) (W : World) (ha : a.valid = true) (hr : r.valid = true) (hao : a.ok) (hro : r.ok) (hc : a.c + r.c ≤ 1073741824) (h : Reds W W.heap.size (some ⟨g, 0, none⟩) 2 [a, r]) :
    Calls Try.prog 31 #[.slice (some ⟨g, 0, none⟩) 2 2] W fun e w' => e = .returned (.tuple #[.agg #[.int .i64 (a.join r).c, .int .i64 (a.join r).i, .int .i64 (hiI (a.join r).v), .int .u64 (loI (a.join r).v), .int .i64 (a.join r).l, .int .i64 (a.join r).m], .int .i64 0]) ∧ Below W.heap.size W w' := by
  refine (joinAll_any _ 2 2 W.heap.size [a, r] W h (Nat.le_refl _) (by intro x hx; simp at hx; rcases hx with rfl | rfl <;> assumption) (by omega)).mono ?_
  rintro e w' ⟨rfl, hb⟩
  rw [jall_two a r ha hr hc]
  exact ⟨rfl, hb⟩
theorem reds_at (w : World) (g : Nat) (a r : RedT) (t : TypeId) (hg : w.heap.size = g) : Reds (w.alloc (.cells #[.int .i64 a.c, .int .i64 a.i, .int .i64 (hiI a.v), .int .u64 (loI a.v), .int .i64 a.l, .int .i64 a.m, .int .i64 r.c, .int .i64 r.i, .int .i64 (hiI r.v), .int .u64 (loI r.v), .int .i64 r.l, .int .i64 r.m] t)) (w.alloc (.cells #[.int .i64 a.c, .int .i64 a.i, .int .i64 (hiI a.v), .int .u64 (loI a.v), .int .i64 a.l, .int .i64 a.m, .int .i64 r.c, .int .i64 r.i, .int .i64 (hiI r.v), .int .u64 (loI r.v), .int .i64 r.l, .int .i64 r.m] t)).heap.size (some ⟨g, 0, none⟩) 2 [a, r] := by
  subst hg
  exact (reds_two w a r t).more (by simp)
theorem reds_on (w : World) (o : Obj) (g : Nat) (a r : RedT) (t : TypeId) (hg : w.heap.size = g) : Reds ((w.alloc (.cells #[.int .i64 a.c, .int .i64 a.i, .int .i64 (hiI a.v), .int .u64 (loI a.v), .int .i64 a.l, .int .i64 a.m, .int .i64 r.c, .int .i64 r.i, .int .i64 (hiI r.v), .int .u64 (loI r.v), .int .i64 r.l, .int .i64 r.m] t)).alloc o) ((w.alloc (.cells #[.int .i64 a.c, .int .i64 a.i, .int .i64 (hiI a.v), .int .u64 (loI a.v), .int .i64 a.l, .int .i64 a.m, .int .i64 r.c, .int .i64 r.i, .int .i64 (hiI r.v), .int .u64 (loI r.v), .int .i64 r.l, .int .i64 r.m] t)).alloc o).heap.size (some ⟨g, 0, none⟩) 2 [a, r] := by
  subst hg
  exact ((reds_two w a r t).alloc (by simp) o).more (by simp)
theorem six_go {w w1 : World} {a b c d e f : Value} {t : TypeId} (hb : Below (w.alloc (.cells #[a, b, c, d, e, f] t)).heap.size (w.alloc (.cells #[a, b, c, d, e, f] t)) w1) : Six w1 w.heap.size a b c d e f := six_new rfl hb

end Go.Proofs.Ytnfohlabmidliaa
/-
  joined.
-/
namespace Go.Proofs.Ytnfohlabmidliaa
open Go.RowKit
set_option linter.unusedVariables false

theorem nreds_one (l : List RedT) : ∀ u ∈ l.flatMap RedT.cells, u.oneCell' = true := by
  intro u hu
  obtain ⟨x, _, hx⟩ := List.mem_flatMap.1 hu
  simp only [RedT.cells, List.mem_cons, List.not_mem_nil, or_false] at hx
  rcases hx with rfl | rfl | rfl | rfl | rfl | rfl <;> rfl
set_option maxRecDepth 20000 in
theorem nred_info : ∃ i, Try.prog.info? 37 = some i ∧ i.zero = some (.agg #[.int .i64 0, .int .i64 0, .int .i64 0, .int .u64 0, .int .i64 0, .int .i64 0]) ∧ i.size = 6 ∧ i.bytes = 48 := ⟨Try.t37, by kernel_rfl, by kernel_rfl, by kernel_rfl, by kernel_rfl⟩
theorem nreds_p (X : World) (p : RedT) (t : TypeId) : Reds (X.alloc (.cells #[.int .i64 p.c, .int .i64 p.i, .int .i64 (hiI p.v), .int .u64 (loI p.v), .int .i64 p.l, .int .i64 p.m] t)) (X.heap.size + 1) (some ⟨X.heap.size, 0, none⟩) 1 [p] := by
  refine ⟨rfl, fun _ => ⟨X.heap.size, 0, rfl, by omega, fun j u hu => ?_⟩⟩
  rw [Nat.zero_add]
  refine (World.cell?_alloc_new X _ t j).trans ?_
  simpa [RedT.cells] using hu
/-- Entries in memory. -/
structure EntsL (w : World) (B : Nat) (A : Option Addr) (n : Nat) (L : List EnT) : Prop where
  row : Shows w B 1 A n (L.map EnT.val)
  ok : ∀ x ∈ L, x.Ok w B
theorem EntsL.later {w w' : World} {B n : Nat} {A : Option Addr} {L : List EnT} (h : EntsL w B A n L) (hb : Below B w w') : EntsL w' B A n L := ⟨h.row.below hb, fun x hx => (h.ok x hx).later hb⟩
theorem EntsL.len {w : World} {B n : Nat} {A : Option Addr} {L : List EnT} (h : EntsL w B A n L) : L.length = n := by have := h.row.1; simpa using this
theorem EntsL.cell {w : World} {B n : Nat} {A : Option Addr} {L : List EnT} (h : EntsL w B A n L) {k : Nat} (hk : k < n) : ∃ b off x, A = some ⟨b, off, none⟩ ∧ b < B ∧ L[k]? = some x ∧ w.cell? ⟨b, off + k, none⟩ = some x.val := by
  obtain ⟨b, off, rfl, hb, hc⟩ := h.row.2 (by omega)
  have hl := h.len
  have hp : L[k]? = some (L[k]'(by omega)) := List.getElem?_eq_getElem (by omega)
  exact ⟨b, off, _, rfl, hb, hp, hc k _ (by rw [List.getElem?_map, hp]; rfl)⟩
def isZ (z : Int) : Bool := decide (z = 0)
theorem entRed_it (x : ItT) (B : Nat) (w : World) (hx : x.Ok w B) : Calls Try.prog 97 #[x.agg] w fun e w' => e = .returned (.agg #[.int .i64 x.red.c, .int .i64 x.red.i, .int .i64 (hiI x.red.v), .int .u64 (loI x.red.v), .int .i64 x.red.l, .int .i64 x.red.m]) ∧ Below w.heap.size w w' := itRed_any x w hx.num

set_option maxRecDepth 20000 in
set_option maxHeartbeats 2000000 in
theorem joined_any (A : Option Addr) (n c B : Nat) (L : List EnT) (w : World) (h : EntsL w B A n L) (hB : B ≤ w.heap.size) (hn : n ≤ 6) :
    Calls Try.prog 54 #[.slice A n c] w fun e w' => e = .returned (.tuple #[.agg #[.int .i64 (jall (L.map EnT.red)).1.c, .int .i64 (jall (L.map EnT.red)).1.i, .int .i64 (hiI (jall (L.map EnT.red)).1.v), .int .u64 (loI (jall (L.map EnT.red)).1.v), .int .i64 (jall (L.map EnT.red)).1.l, .int .i64 (jall (L.map EnT.red)).1.m], .bool (isZ (jall (L.map EnT.red)).2)]) ∧ Below w.heap.size w w' := by
  obtain ⟨R, hR⟩ : ∃ R, jall (L.map EnT.red) = R := ⟨_, rfl⟩
  have HJ := Lib.hid hR
  rw [hR]
  clear hR
  obtain ⟨r, z⟩ := R
  simp only
  obtain ⟨bz, hbz⟩ : ∃ b, isZ z = b := ⟨_, rfl⟩
  have HZ := Lib.hid hbz
  rw [hbz]
  clear hbz
  obtain ⟨i0, hi, hz0, hz1, hz2⟩ := nred_info
  have hmk := fun W => run_make (P := Try.prog) W 82 37 i0 _ Try.underlying82 hi hz0 .i64 .i64 0 (n : Int) (by omega) (by omega) (by rw [hz2]; omega) (by omega)
  rw [Int.toNat_natCast, show (0 : Int).toNat = 0 from rfl, hz1] at hmk
  have hlen := h.len
  have HLen := Lib.hid hlen
  have H0 := Lib.hid h
  obtain ⟨C, hC⟩ : ∃ C, madeCells (Value.agg #[.int .i64 0, .int .i64 0, .int .i64 0, .int .u64 0, .int .i64 0, .int .i64 0]).cells (n * 6) = C := ⟨_, rfl⟩
  have hCs : C.size = n * 6 := by rw [← hC]; exact size_madeCells _ _
  rw [hC] at hmk
  clear hC h hlen
  obtain ⟨W0, hW0⟩ : ∃ W0, w.alloc (.cells #[.int .i64 0, .int .i64 0, .int .i64 0, .int .u64 0, .int .i64 0, .int .i64 0] 37) = W0 := ⟨_, rfl⟩
  have hs0 : Six W0 w.heap.size (.int .i64 0) (.int .i64 0) (.int .i64 0) (.int .u64 0) (.int .i64 0) (.int .i64 0) := by rw [← hW0]; exact Six.new _ _ _ _ _ _ _ _
  have hb0 : Below w.heap.size w W0 := by rw [← hW0]; exact bel_alloc (Below.refl _ _) _
  have ho := own_made (base := W0.heap.size) (e := 37) (size := 6) W0 C 0 n (Nat.le_refl _) (Nat.zero_le _) (by unfold maxLen; omega) hCs
  rw [Nat.zero_mul, List.take_zero] at ho
  have hb1 := bel_alloc hb0 (.cells C 37)
  have hb01 := bel_alloc (Below.refl W0.heap.size W0) (.cells C 37)
  have HS0 := Lib.hid hs0
  have HO := Lib.hid ho
  have HW0 := Lib.hid hW0
  clear hW0 hs0 ho
  go_enter Try.func54, Try.ntmps54
  go_upto_region 1 with fail
  rw [HW0.out]
  clear HW0
  go_wp2_with fail
  generalize W0.alloc (.cells C 37) = W1 at *
  clear hmk hCs
  go_loopw [4, 14] (fun v y wr => ∃ (k : Nat) (A1 : Option Addr) (c1 : Nat), k ≤ n ∧ y = .int .i64 k ∧ v = .slice A1 k c1 ∧ Hid (wr.ownsRow W0.heap.size 37 6 (.slice A1 k c1) k (((L.take k).map EnT.red).flatMap RedT.cells)) ∧ Below W0.heap.size W0 wr) (fun _ y _ => n - (intOf y).toNat)
  case atStart => exact ⟨0, some ⟨W0.heap.size, 0, none⟩, n, Nat.zero_le _, rfl, rfl, Lib.hid HO.out, hb01⟩
  case round =>
    clear hb1 HO hb01
    obtain ⟨k, A1, c1, hk, rfl, rfl, HO, hbr⟩ := hrel
    have hs00 := hb0.size
    have hbw := hb0.trans (hbr.mono hb0.size)
    by_cases hlt : k < n
    · have HE := H0.out.later (hbw.mono hB)
      obtain ⟨b, off, x, rfl, hbB, hx, x0⟩ := HE.cell hlt
      have hxo := HE.ok x (List.mem_of_getElem? hx)
      have HX := Lib.hid (takeN hx)
      have hlt' : (k : Int) < (n : Int) := by omega
      have hred := hxo.red
      have h63 : k + 1 ≤ maxLen := by unfold maxLen; omega
      have hbt : (k + 1) * 48 ≤ 140737488355328 := by omega
      clear hx HE
      rcases x with x | x
      · have hc := entRed_it x B wr hxo
        have x1 : wr.cell? ⟨b, off + k, none⟩ = some (.iface 94 x.agg) := x0
        have HR := Lib.hid (show (EnT.it x).red = x.red from rfl)
        generalize x.agg = pv at *
        clear x0 hxo hred
        go_wp2_with fail
        refine hc.mono ?_
        rintro e w2 ⟨rfl, hb2⟩
        generalize x.red = r1 at *
        have hn6 := own_later HO.out (bel_alloc hb2 (.cells #[.int .i64 r1.c, .int .i64 r1.i, .int .i64 (hiI r1.v), .int .u64 (loI r1.v), .int .i64 r1.l, .int .i64 r1.m] 37))
        have hb3 := bel_alloc (bel_next hbr hb2) (.cells #[.int .i64 r1.c, .int .i64 r1.i, .int .i64 (hiI r1.v), .int .u64 (loI r1.v), .int .i64 r1.l, .int .i64 r1.m] 37)
        have hs6 := nreds_p w2 r1 37
        have hz6 := hb3.size
        clear hb2 hc x1 HO hbr hbw
        go_wp2_with (at_builtin; refine wpList_append_shows _ rfl _ _ _ rfl W0.heap.size 37 i0 (.agg #[.int .i64 0, .int .i64 0, .int .i64 0, .int .u64 0, .int .i64 0, .int .i64 0]) 6 48 Try.underlying82 hi hz0 hz1 hz2 rfl (by decide) _ _ _ rfl hn6 _ _ 1 1 ([r1].flatMap RedT.cells) rfl hs6 (nreds_one _) h63 hbt hz6 ?_; intro A7 c7 w7 hown7 hgrow7 hb7; have HO7 := Lib.hid hown7; have HB7 := Lib.hid (hb3.trans hb7); clear hown7 hgrow7 hb7 hn6 hs6 h63 hbt hz6 hb3)
        go_roundw
        case rel => exact ⟨k + 1, A7, c7, by omega, by go_num, rfl, Lib.hid (by rw [HX.out, List.map_append, List.flatMap_append, List.map_singleton, HR.out]; exact HO7.out), HB7.out⟩
        case measure => simp [intOf]; omega
      · have hc := kiRed_any x wr
        have x1 : wr.cell? ⟨b, off + k, none⟩ = some (.iface 100 x.agg) := x0
        have HR := Lib.hid (show (EnT.ki x).red = x.r from rfl)
        generalize x.agg = pv at *
        clear x0 hxo hred
        go_wp2_with fail
        refine hc.mono ?_
        rintro e w2 ⟨rfl, hb2⟩
        generalize x.r = r1 at *
        have hn6 := own_later HO.out (bel_alloc hb2 (.cells #[.int .i64 r1.c, .int .i64 r1.i, .int .i64 (hiI r1.v), .int .u64 (loI r1.v), .int .i64 r1.l, .int .i64 r1.m] 37))
        have hb3 := bel_alloc (bel_next hbr hb2) (.cells #[.int .i64 r1.c, .int .i64 r1.i, .int .i64 (hiI r1.v), .int .u64 (loI r1.v), .int .i64 r1.l, .int .i64 r1.m] 37)
        have hs6 := nreds_p w2 r1 37
        have hz6 := hb3.size
        clear hb2 hc x1 HO hbr hbw
        go_wp2_with (at_builtin; refine wpList_append_shows _ rfl _ _ _ rfl W0.heap.size 37 i0 (.agg #[.int .i64 0, .int .i64 0, .int .i64 0, .int .u64 0, .int .i64 0, .int .i64 0]) 6 48 Try.underlying82 hi hz0 hz1 hz2 rfl (by decide) _ _ _ rfl hn6 _ _ 1 1 ([r1].flatMap RedT.cells) rfl hs6 (nreds_one _) h63 hbt hz6 ?_; intro A7 c7 w7 hown7 hgrow7 hb7; have HO7 := Lib.hid hown7; have HB7 := Lib.hid (hb3.trans hb7); clear hown7 hgrow7 hb7 hn6 hs6 h63 hbt hz6 hb3)
        go_roundw
        case rel => exact ⟨k + 1, A7, c7, by omega, by go_num, rfl, Lib.hid (by rw [HX.out, List.map_append, List.flatMap_append, List.map_singleton, HR.out]; exact HO7.out), HB7.out⟩
        case measure => simp [intOf]; omega
    · obtain rfl : n = k := by omega
      have htk : L.take n = L := List.take_of_length_le (by rw [HLen.out]; exact Nat.le_refl _)
      have HO2 := HO.out
      rw [htk] at HO2
      have hreds : Reds wr wr.heap.size A1 n (L.map EnT.red) := Shows.own HO2
      have hok : ∀ r ∈ L.map EnT.red, r.ok := by
        intro r hr
        obtain ⟨x, hx, rfl⟩ := List.mem_map.1 hr
        exact (H0.out.ok x hx).red
      have hj := joinAll_any A1 n c1 wr.heap.size (L.map EnT.red) wr hreds (Nat.le_refl _) hok (by omega)
      clear htk HO2 hreds hok HO
      rw [HJ.out] at hj
      simp only at hj
      go_wp2_with fail
      refine hj.mono ?_
      rintro e w2 ⟨rfl, hb2⟩
      have hb2' := bel_next hbr hb2
      have HS2 := HS0.out.below (bel_alloc hb2' (.cells #[.int .i64 r.c, .int .i64 r.i, .int .i64 (hiI r.v), .int .u64 (loI r.v), .int .i64 r.l, .int .i64 r.m] 37)) rfl
      obtain ⟨⟨r0, r1, r2, r3, r4, r5⟩, f0, f1, f2, f3, f4, f5⟩ := HS2
      have hbz := below_set6 (bel_alloc (bel_next hbw hb2) (.cells #[.int .i64 r.c, .int .i64 r.i, .int .i64 (hiI r.v), .int .u64 (loI r.v), .int .i64 r.l, .int .i64 r.m] 37)) (Nat.le_refl _) (a := .int .i64 r.c) (b := .int .i64 r.i) (c := .int .i64 (hiI r.v)) (d := .int .u64 (loI r.v)) (e := .int .i64 r.l) (f := .int .i64 r.m)
      unfold RedT.val redV
      clear hj hb2 hb2' hbr hbw
      by_cases hz : z = 0
      · obtain rfl : bz = true := by rw [← HZ.out, hz]; rfl
        subst hz
        go_wp2
        refine bodyPost_ret (v := .tuple #[.agg #[.int .i64 r.c, .int .i64 r.i, .int .i64 (hiI r.v), .int .u64 (loI r.v), .int .i64 r.l, .int .i64 r.m], .bool true]) ?_ rfl ⟨rfl, hbz⟩
        simp [results, Try.results54, go_sem, *]
      · have hz' : (z = 0) = False := eq_false hz
        obtain rfl : bz = false := by rw [← HZ.out]; exact decide_eq_false hz
        clear hz
        go_wp2
        refine bodyPost_ret (v := .tuple #[.agg #[.int .i64 r.c, .int .i64 r.i, .int .i64 (hiI r.v), .int .u64 (loI r.v), .int .i64 r.l, .int .i64 r.m], .bool false]) ?_ rfl ⟨rfl, hbz⟩
        simp [results, Try.results54, go_sem, *]
end Go.Proofs.Ytnfohlabmidliaa
/-
  checked.
-/
namespace Go.Proofs.Ytnfohlabmidliaa
open Go.RowKit
set_option linter.unusedVariables false

/-- What checked hands back. -/
def ChkP (X : NoT) (W : World) (e : Ending) (w' : World) : Prop :=
  Below W.heap.size W w' ∧ ((X.okB = false ∧ e = .returned (.tuple #[.slice none 0 0, .agg #[.int .i64 0, .int .i64 0, .int .i64 0, .int .u64 0, .int .i64 0, .int .i64 0], .bool false])) ∨
    (X.okB = true ∧ ∃ A n c, e = .returned (.tuple #[.slice A n c, .agg #[.int .i64 X.all.1.c, .int .i64 X.all.1.i, .int .i64 (hiI X.all.1.v), .int .u64 (loI X.all.1.v), .int .i64 X.all.1.l, .int .i64 X.all.1.m], .bool true]) ∧ n = X.ents.length ∧ w'.ownsRow W.heap.size 71 1 (.slice A n c) n (X.ents.map EnT.val)))
def prevK (L : List EnT) (k : Nat) : Option (List UInt8) := if k = 0 then none else (L[k - 1]?).map (·.key.l)
theorem prev_zero (L : List EnT) : prevK L 0 = none := rfl
theorem prev_succ {L : List EnT} {k : Nat} {y : EnT} (h : L[k]? = some y) : prevK L (k + 1) = some y.key.l := by
  unfold prevK
  rw [if_neg (by omega), Nat.add_sub_cancel, h]
  rfl
theorem run_first {L : List EnT} {x : EnT} (h : L[0]? = some x) : runOk (prevK L 0) (L.drop 0) = (x.okB && runOk (prevK L 1) (L.drop 1)) := by
  rw [dropN h, prev_zero, prev_succ h]
  rfl
theorem run_next {L : List EnT} {k : Nat} {x y : EnT} (h : L[k + 1]? = some x) (hy : L[k]? = some y) : runOk (prevK L (k + 1)) (L.drop (k + 1)) = (x.okB && (ltB y.key.l x.key.l && runOk (prevK L (k + 1 + 1)) (L.drop (k + 1 + 1)))) := by
  rw [dropN h, prev_succ hy, prev_succ h]
  rfl
theorem run_any {L : List EnT} {k : Nat} {x : EnT} (h : L[k]? = some x) (hx : x.okB = false) : runOk (prevK L k) (L.drop k) = false := by
  rw [dropN h]
  cases prevK L k <;> simp [runOk, hx]
theorem entOk_it (x : ItT) (B : Nat) (w : World) (hx : x.Ok w B) : Calls Try.prog 98 #[x.agg] w fun e w' => e = .returned (.bool x.okB) ∧ Below w.heap.size w w' := itValid_any x B w hx
theorem shape_len {X : NoT} {w : World} {B : Nat} (hX : LieN w B X) (h : X.shape = true) : X.ents.length ≤ 6 ∧ 1 ≤ X.ents.length := by
  unfold NoT.shape at h
  unfold NoT.ents
  have h1 := hX.ilen
  have h2 := hX.klen
  cases hl : X.leaf
  · rw [hl, if_neg Bool.false_ne_true] at h
    rw [if_neg Bool.false_ne_true]
    have := of_decide_eq_true h
    rw [List.length_map]
    omega
  · rw [hl, if_pos rfl] at h
    rw [if_pos rfl]
    have := of_decide_eq_true h
    rw [List.length_map]
    omega
theorem ents_ok {X : NoT} {w : World} {B : Nat} (hX : LieN w B X) : ∀ x ∈ X.ents, x.Ok w B := by
  intro x hx
  unfold NoT.ents at hx
  cases hl : X.leaf
  · rw [hl, if_neg Bool.false_ne_true] at hx
    obtain ⟨y, hy, rfl⟩ := List.mem_map.1 hx
    exact hX.kids y hy
  · rw [hl, if_pos rfl] at hx
    obtain ⟨y, hy, rfl⟩ := List.mem_map.1 hx
    exact hX.items y hy

set_option maxRecDepth 20000 in
set_option maxHeartbeats 4000000 in
theorem checked_any (X : NoT) (B : Nat) (w : World) (hX : LieN w B X) (hB : B ≤ w.heap.size) :
    Calls Try.prog 39 #[X.agg] w (ChkP X w) := by
  have hb := bel_alloc (bel_alloc (Below.refl w.heap.size w) (.cells #[.bool X.leaf, .slice X.iA X.iN X.iC, .slice X.kA X.kN X.kC] 25)) (.cells #[.int .i64 0, .int .i64 0, .int .i64 0, .int .u64 0, .int .i64 0, .int .i64 0] 37)
  have hs := Six.new (w.alloc (.cells #[.bool X.leaf, .slice X.iA X.iN X.iC, .slice X.kA X.kN X.kC] 25)) (.int .i64 0) (.int .i64 0) (.int .i64 0) (.int .u64 0) (.int .i64 0) (.int .i64 0) 37
  rw [World.size_alloc] at hs
  have hs1 : w.heap.size + 1 < ((w.alloc (.cells #[.bool X.leaf, .slice X.iA X.iN X.iC, .slice X.kA X.kN X.kC] 25)).alloc (.cells #[.int .i64 0, .int .i64 0, .int .i64 0, .int .u64 0, .int .i64 0, .int .i64 0] 37)).heap.size := by rw [World.size_alloc, World.size_alloc]; omega
  have HS := Lib.hid hs
  have HX := Lib.hid hX
  have hagg : X.agg = .agg #[.bool X.leaf, .slice X.iA X.iN X.iC, .slice X.kA X.kN X.kC] := rfl
  obtain ⟨leaf, hleaf⟩ : ∃ z, X.leaf = z := ⟨_, rfl⟩
  rw [hleaf] at hb hs hs1 HS hagg
  have HG := Lib.hid hagg
  rw [hagg]
  clear hs hX hagg hleaf
  go_enter Try.func39, Try.ntmps39
  go_wp2_with fail
  generalize (w.alloc (.cells #[.bool leaf, .slice X.iA X.iN X.iC, .slice X.kA X.kN X.kC] 25)).alloc (.cells #[.int .i64 0, .int .i64 0, .int .i64 0, .int .u64 0, .int .i64 0, .int .i64 0] 37) = W1 at *
  have hsz := hb.size
  rw [← HG.out]
  cases hsh : X.shape
  · have HK := Lib.hid (show X.okB = false by unfold NoT.okB; rw [hsh]; rfl)
    refine (entriesOf_no X W1 hsh).mono ?_
    rintro e w2 ⟨rfl, hb2⟩
    clear hsh
    have hb3 := bel_next hb hb2
    obtain ⟨⟨r0, r1, r2, r3, r4, r5⟩, f0, f1, f2, f3, f4, f5⟩ := HS.out.below hb2 rfl
    have hbz := below_set6 hb3 (show w.heap.size ≤ w.heap.size + 1 by omega) (a := .int .i64 0) (b := .int .i64 0) (c := .int .i64 0) (d := .int .u64 0) (e := .int .i64 0) (f := .int .i64 0)
    clear hb2 hb3 hb
    go_wp2
    refine bodyPost_ret (v := .tuple #[.slice none 0 0, .agg #[.int .i64 0, .int .i64 0, .int .i64 0, .int .u64 0, .int .i64 0, .int .i64 0], .bool false]) ?_ rfl ⟨hbz, .inl ⟨HK.out, rfl⟩⟩
    simp [results, Try.results39, go_sem, *]
  · obtain ⟨hl6, hl1⟩ := shape_len HX.out hsh
    have HK := Lib.hid (show X.okB = (runOk none X.ents && isZ (jall (X.ents.map EnT.red)).2) by unfold NoT.okB; rw [hsh]; rfl)
    have hX1 := HX.out.later (hb.mono hB)
    have hcall := entriesOf_yes X B W1 hX1 (Nat.le_trans hB hsz) hsh
    have hEok := ents_ok hX1
    have HA := Lib.hid (show X.all = jall (X.ents.map EnT.red) from rfl)
    obtain ⟨L, hL⟩ : ∃ L, X.ents = L := ⟨_, rfl⟩
    rw [hL] at HK hcall hEok hl6 hl1 HA
    have HL := Lib.hid hL
    clear hsh hX1 hL
    refine hcall.mono ?_
    rintro e w2 ⟨A, n, c, rfl, hO, hb2⟩
    have hnl : L.length = n := by have := hO.1; simpa using this
    have HE := Lib.hid (show EntsL w2 w2.heap.size A n L from ⟨Shows.own hO, fun x hx => by
      have h := (hEok x hx).later (hb2.mono (Nat.le_trans hB hsz))
      have hsz2 := hb2.size
      cases x
      · exact ItT.Ok.more h (by omega)
      · exact KiT.Ok.more h (by omega)⟩)
    have hn6 : n ≤ 6 := by omega
    have HN := Lib.hid hnl
    have HO := Lib.hid hO
    have hs12 : w.heap.size + 1 < w2.heap.size := Nat.lt_of_lt_of_le hs1 hb2.size
    have HS2 := Lib.hid (HS.out.below hb2 rfl)
    have hb3 := bel_next hb hb2
    clear hb hb2 hO hEok hcall HS hl6 hl1 hnl
    go_wp2_with fail
    go_loopw [20] (fun y wr => ∃ k : Nat, k ≤ n ∧ y = .int .i64 k ∧ Below w2.heap.size w2 wr ∧ Hid (runOk none L = runOk (prevK L k) (L.drop k))) (fun y _ => n - (intOf y).toNat)
    case atStart => exact ⟨0, Nat.zero_le _, rfl, Below.refl _ _, Lib.hid rfl⟩
    case round =>
      obtain ⟨k, hk, rfl, hbr, HR⟩ := hrel
      have hbw := bel_next hb3 hbr
      have hsr := hbr.size
      by_cases hlt : k < n
      · have HEr := Lib.hid (HE.out.later hbr)
        obtain ⟨b, off, x, rfl, hbB, hx, x0⟩ := HEr.out.cell hlt
        have hxo := HEr.out.ok x (List.mem_of_getElem? hx)
        have hlt' : (k : Int) < (n : Int) := by omega
        have HF := Lib.hid (fun h : x.okB = false => (show X.okB = false by rw [HK.out, HR.out, run_any hx h]; rfl))
        rcases Nat.eq_zero_or_pos k with hk0 | hk0
        · subst hk0
          have HG := Lib.hid (run_first hx)
          rw [Nat.add_zero] at x0
          rcases x with x | x <;> simp only [EnT.val, EnT.okB] at x0 HF HG <;>
          · clear hx
            go_wp2_with fail
            first | refine (itValid_any x _ wr hxo).mono ?_ | refine (kiValid_any x _ wr hxo).mono ?_
            rintro e w3 ⟨rfl, hbz3⟩
            have hb4 := bel_next hbr hbz3
            have hb5 := bel_next hbw hbz3
            generalize x.okB = q at *
            cases q
            · have HK0 := Lib.hid (HF.out rfl)
              obtain ⟨⟨r0, r1, r2, r3, r4, r5⟩, f0, f1, f2, f3, f4, f5⟩ := HS2.out.below hb4 rfl
              have hbz := below_set6 hb5 (show w.heap.size ≤ w.heap.size + 1 by omega) (a := .int .i64 0) (b := .int .i64 0) (c := .int .i64 0) (d := .int .u64 0) (e := .int .i64 0) (f := .int .i64 0)
              clear hbz3 hb4 hb5 hbr hbw hxo HG HF x0
              go_wp2
              refine bodyPost_ret (v := .tuple #[.slice none 0 0, .agg #[.int .i64 0, .int .i64 0, .int .i64 0, .int .u64 0, .int .i64 0, .int .i64 0], .bool false]) ?_ rfl ⟨hbz, .inl ⟨HK0.out, rfl⟩⟩
              simp [results, Try.results39, go_sem, *]
            · have HR2 := Lib.hid (HR.out.trans (HG.out.trans (Bool.true_and _)))
              clear hbz3 hb5 hbr hbw hxo HG HF x0
              go_wp2
              go_roundw
              case rel => exact ⟨1, by omega, by go_num, hb4, HR2⟩
              case measure => simp [intOf]; omega
        · obtain ⟨j, rfl⟩ : ∃ j, k = j + 1 := ⟨k - 1, by omega⟩
          obtain ⟨b', off', y, hAe, _, hy, y0⟩ := HEr.out.cell (show j < n by omega)
          injection hAe with hAe
          obtain ⟨rfl, rfl⟩ : b = b' ∧ off = off' := by injection hAe with h1 h2; exact ⟨h1, h2⟩
          have hyo := HEr.out.ok y (List.mem_of_getElem? hy)
          have HG := Lib.hid (run_next hx hy)
          have hxk := Lib.hid hxo.key
          have hyk := Lib.hid hyo.key
          clear hAe
          rcases x with x | x <;> simp only [EnT.val, EnT.okB, EnT.key] at x0 HF HG hxk <;> rcases y with y | y <;> simp only [EnT.val, EnT.key] at y0 HG hyk <;>
          · clear hx hy
            go_wp2_with fail
            first | refine (itValid_any x _ wr hxo).mono ?_ | refine (kiValid_any x _ wr hxo).mono ?_
            rintro e w3 ⟨rfl, hbz3⟩
            have hb4 := bel_next hbr hbz3
            have hb5 := bel_next hbw hbz3
            generalize x.okB = q at *
            cases q
            · have HK0 := Lib.hid (HF.out rfl)
              obtain ⟨⟨r0, r1, r2, r3, r4, r5⟩, f0, f1, f2, f3, f4, f5⟩ := HS2.out.below hb4 rfl
              have hbz := below_set6 hb5 (show w.heap.size ≤ w.heap.size + 1 by omega) (a := .int .i64 0) (b := .int .i64 0) (c := .int .i64 0) (d := .int .u64 0) (e := .int .i64 0) (f := .int .i64 0)
              clear hbz3 hb4 hb5 hbr hbw hxo hyo HG HF x0 y0 hyk hxk
              go_wp2
              refine bodyPost_ret (v := .tuple #[.slice none 0 0, .agg #[.int .i64 0, .int .i64 0, .int .i64 0, .int .u64 0, .int .i64 0, .int .i64 0], .bool false]) ?_ rfl ⟨hbz, .inl ⟨HK0.out, rfl⟩⟩
              simp [results, Try.results39, go_sem, *]
            · have y1 := mkept_later hbz3 y0
              have x1 := mkept_later hbz3 x0
              have hxK := hxk.out.later (hbz3.mono hsr)
              have hyK := hyk.out.later (hbz3.mono hsr)
              clear hbz3 x0 y0 hxo hyo hbr hbw HF
              go_wp2_with fail
              first | refine (itName_any y w3).mono ?_ | refine (kiName_any y w3).mono ?_
              rintro e w4 ⟨rfl, hbz4⟩
              have hs3 := hb4.size
              have x2 := mkept_later hbz4 x1
              have hb6 := bel_next hb4 hbz4
              have hb7 := bel_next hb5 hbz4
              have hxK := hxK.later (hbz4.mono hs3)
              have hyK := hyK.later (hbz4.mono hs3)
              clear hbz4 x1 y1 hb4 hb5
              go_wp2_with fail
              first | refine (itName_any x w4).mono ?_ | refine (kiName_any x w4).mono ?_
              rintro e w5 ⟨rfl, hbz5⟩
              have hs4 := hb6.size
              have hb8 := bel_next hb6 hbz5
              have hb9 := bel_next hb7 hbz5
              have hxK := hxK.later (hbz5.mono hs4)
              have hyK := hyK.later (hbz5.mono hs4)
              have hcm := bcompare_any y.k.A x.k.A y.k.n y.k.c x.k.n x.k.c y.k.l x.k.l _ _ w5 hyK.here hxK.here
              clear hbz5 x2 hb6 hb7
              obtain ⟨z, hz0⟩ : ∃ z, cmpL y.k.l x.k.l = z := ⟨_, rfl⟩
              rw [hz0] at hcm
              have HZ0 := Lib.hid hz0
              clear hz0
              go_wp2_with fail
              refine hcm.mono ?_
              rintro e w6 ⟨rfl, rfl⟩
              clear hcm hxK hyK hxk hyk
              by_cases hz : z < 0
              · have hz' : ((0 : Int) ≤ z) = False := by simp; omega
                have HR2 := Lib.hid (HR.out.trans (HG.out.trans (by show (true && (ltB y.k.l x.k.l && _)) = _; rw [ltB_yes (by rw [HZ0.out]; exact hz)])))
                clear hz HG hb9
                go_wp2
                go_roundw
                case rel => exact ⟨j + 1 + 1, by omega, by go_num, hb8, HR2⟩
                case measure => simp [intOf]; omega
              · have hz' : (0 : Int) ≤ z := by omega
                have HK0 := Lib.hid (show X.okB = false by rw [HK.out, HR.out, HG.out]; show ((true && (ltB y.k.l x.k.l && _)) && _) = _; rw [ltB_no (by rw [HZ0.out]; exact hz)]; rfl)
                obtain ⟨⟨r0, r1, r2, r3, r4, r5⟩, f0, f1, f2, f3, f4, f5⟩ := HS2.out.below hb8 rfl
                have hbz := below_set6 hb9 (show w.heap.size ≤ w.heap.size + 1 by omega) (a := .int .i64 0) (b := .int .i64 0) (c := .int .i64 0) (d := .int .u64 0) (e := .int .i64 0) (f := .int .i64 0)
                clear hz HG hb8 hb9
                go_wp2
                refine bodyPost_ret (v := .tuple #[.slice none 0 0, .agg #[.int .i64 0, .int .i64 0, .int .i64 0, .int .u64 0, .int .i64 0, .int .i64 0], .bool false]) ?_ rfl ⟨hbz, .inl ⟨HK0.out, rfl⟩⟩
                simp [results, Try.results39, go_sem, *]
      · obtain rfl : n = k := by omega
        have HQ := Lib.hid (show runOk none L = true by rw [HR.out, List.drop_of_length_le (by rw [HN.out]; exact Nat.le_refl _)]; cases prevK L n <;> rfl)
        have hj := joined_any A n c _ L wr (HE.out.later hbr) hsr hn6
        obtain ⟨R, hR⟩ : ∃ R, jall (L.map EnT.red) = R := ⟨_, rfl⟩
        rw [hR] at hj HK HA
        clear hR hlt HR
        obtain ⟨r, z⟩ := R
        simp only at hj HK
        obtain ⟨bz, hz⟩ : ∃ b, isZ z = b := ⟨_, rfl⟩
        rw [hz] at HK hj
        go_wp2_with fail
        refine hj.mono ?_
        rintro e w4 ⟨rfl, hb4⟩
        have hb5 := bel_next hbr hb4
        have hb6 := bel_next hbw hb4
        have HO4 := Lib.hid (own_later HO.out hb5)
        clear hj hb4 hbr hbw hz
        have HSa := HS2.out.below (bel_alloc hb5 (.cells #[.int .i64 r.c, .int .i64 r.i, .int .i64 (hiI r.v), .int .u64 (loI r.v), .int .i64 r.l, .int .i64 r.m] 37)) rfl
        have hba := bel_alloc hb6 (.cells #[.int .i64 r.c, .int .i64 r.i, .int .i64 (hiI r.v), .int .u64 (loI r.v), .int .i64 r.l, .int .i64 r.m] 37)
        have hsn := Six.new w4 (.int .i64 r.c) (.int .i64 r.i) (.int .i64 (hiI r.v)) (.int .u64 (loI r.v)) (.int .i64 r.l) (.int .i64 r.m) 37
        have HOa := Lib.hid (HO4.out.alloc (.cells #[.int .i64 r.c, .int .i64 r.i, .int .i64 (hiI r.v), .int .u64 (loI r.v), .int .i64 r.l, .int .i64 r.m] 37))
        have hgw : w.heap.size + 1 < w4.heap.size := Nat.lt_of_lt_of_le hs12 hb5.size
        have HS1 := Lib.hid hs1
        clear hs1 hs12
        cases bz
        · have HK0 := Lib.hid (show X.okB = false by rw [HK.out, Bool.and_false])
          obtain ⟨⟨r0, r1, r2, r3, r4, r5⟩, f0, f1, f2, f3, f4, f5⟩ := HSa
          have hbz := below_set6 hba (show w.heap.size ≤ w.heap.size + 1 by omega) (a := .int .i64 0) (b := .int .i64 0) (c := .int .i64 0) (d := .int .u64 0) (e := .int .i64 0) (f := .int .i64 0)
          clear hsn hba hb5 hb6 hgw
          go_wp2
          refine bodyPost_ret (v := .tuple #[.slice none 0 0, .agg #[.int .i64 0, .int .i64 0, .int .i64 0, .int .u64 0, .int .i64 0, .int .i64 0], .bool false]) ?_ rfl ⟨hbz, .inl ⟨HK0.out, rfl⟩⟩
          simp [results, Try.results39, go_sem, *]
        · have HK0 := Lib.hid (show X.okB = true by rw [HK.out, HQ.out, Bool.and_true])
          obtain ⟨⟨r0, r1, r2, r3, r4, r5⟩, f0, f1, f2, f3, f4, f5⟩ := HSa
          obtain ⟨⟨q0, q1, q2, q3, q4, q5⟩, -⟩ := hsn
          have hbz := below_set6 hba (show w.heap.size ≤ w.heap.size + 1 by omega) (a := .int .i64 r.c) (b := .int .i64 r.i) (c := .int .i64 (hiI r.v)) (d := .int .u64 (loI r.v)) (e := .int .i64 r.l) (f := .int .i64 r.m)
          have hgw5 : w.heap.size + 1 < (w4.alloc (.cells #[.int .i64 r.c, .int .i64 r.i, .int .i64 (hiI r.v), .int .u64 (loI r.v), .int .i64 r.l, .int .i64 r.m] 37)).heap.size := by rw [World.size_alloc]; omega
          clear hba hb5 hb6
          go_upto_region 13 with fail
          generalize w4.alloc (.cells #[.int .i64 r.c, .int .i64 r.i, .int .i64 (hiI r.v), .int .u64 (loI r.v), .int .i64 r.l, .int .i64 r.m] 37) = W5 at *
          go_region
          have hO6 := own_base (ownsRow_setCell_below (ownsRow_setCell_below (ownsRow_setCell_below (ownsRow_setCell_below (ownsRow_setCell_below (ownsRow_setCell_below HOa.out (a := ⟨w.heap.size + 1, 0, none⟩) HS1.out (.int .i64 r.c)) (a := ⟨w.heap.size + 1, 1, none⟩) HS1.out (.int .i64 r.i)) (a := ⟨w.heap.size + 1, 2, none⟩) HS1.out (.int .i64 (hiI r.v))) (a := ⟨w.heap.size + 1, 3, none⟩) HS1.out (.int .u64 (loI r.v))) (a := ⟨w.heap.size + 1, 4, none⟩) HS1.out (.int .i64 r.l)) (a := ⟨w.heap.size + 1, 5, none⟩) HS1.out (.int .i64 r.m)) hsz
          go_wp2
          refine bodyPost_ret (v := .tuple #[.slice A n c, .agg #[.int .i64 r.c, .int .i64 r.i, .int .i64 (hiI r.v), .int .u64 (loI r.v), .int .i64 r.l, .int .i64 r.m], .bool true]) ?_ rfl ⟨below_drewN hbz 1, .inr ⟨HK0.out, A, n, c, ?_, ?_, ?_⟩⟩
          · simp [results, Try.results39, go_sem, *]
          · rw [HA.out]
          · rw [HL.out, HN.out]
          · rw [HL.out]; exact hO6.drew
end Go.Proofs.Ytnfohlabmidliaa
/-
  Check, First, Red.
-/
namespace Go.Proofs.Ytnfohlabmidliaa
open Go.RowKit
set_option linter.unusedVariables false

def chkN (X : NoT) : Int := if X.okB then 0 else 240
theorem chk_yes {X : NoT} (h : X.okB = true) : chkN X = 0 := by unfold chkN; rw [if_pos h]
theorem chk_no {X : NoT} (h : X.okB = false) : chkN X = 240 := by unfold chkN; rw [if_neg (by rw [h]; exact Bool.false_ne_true)]
theorem runOk_all : ∀ (L : List EnT) (p : Option (List UInt8)), runOk p L = true → ∀ x ∈ L, x.okB = true
  | [], p, _, x, hx => by cases hx
  | y :: L, p, h, x, hx => by
    have h2 : y.okB = true ∧ runOk (some y.key.l) L = true := by
      cases p with
      | none =>
        unfold runOk at h
        simpa using h
      | some q =>
        unfold runOk at h
        simp only [Bool.and_eq_true] at h
        exact ⟨h.1, h.2.2⟩
    rcases List.mem_cons.1 hx with rfl | hx
    · exact h2.1
    · exact runOk_all L _ h2.2 x hx
theorem okB_parts {X : NoT} (h : X.okB = true) : X.shape = true ∧ runOk none X.ents = true ∧ X.all.2 = 0 := by
  unfold NoT.okB at h
  simp only [Bool.and_eq_true, decide_eq_true_eq] at h
  exact h
/-- The first key of a node. -/
def NoT.fst (X : NoT) : PcT := match X.ents with | [] => ⟨none, 0, 0, []⟩ | x :: _ => x.key
def FirP (X : NoT) (W : World) (e : Ending) (w' : World) : Prop :=
  Below W.heap.size W w' ∧ ((X.okB = false ∧ e = .returned (.tuple #[.slice none 0 0, .int .i64 240])) ∨ (X.okB = true ∧ e = .returned (.tuple #[.slice X.fst.A X.fst.n X.fst.c, .int .i64 0])))
def RedP (X : NoT) (W : World) (e : Ending) (w' : World) : Prop :=
  Below W.heap.size W w' ∧ ((X.okB = false ∧ e = .returned (.tuple #[.agg #[.int .i64 0, .int .i64 0, .int .i64 0, .int .u64 0, .int .i64 0, .int .i64 0], .int .i64 240])) ∨ (X.okB = true ∧ e = .returned (.tuple #[.agg #[.int .i64 X.all.1.c, .int .i64 X.all.1.i, .int .i64 (hiI X.all.1.v), .int .u64 (loI X.all.1.v), .int .i64 X.all.1.l, .int .i64 X.all.1.m], .int .i64 0])))
set_option maxRecDepth 20000 in
set_option maxHeartbeats 2000000 in
theorem check14_any (X : NoT) (B : Nat) (w : World) (hX : LieN w B X) (hB : B ≤ w.heap.size) :
    Calls Try.prog 14 #[X.agg] w fun e w' => e = .returned (.int .i64 (chkN X)) ∧ Below w.heap.size w w' := by
  have hb := bel_alloc (Below.refl w.heap.size w) (.cells #[.bool X.leaf, .slice X.iA X.iN X.iC, .slice X.kA X.kN X.kC] 25)
  have hcall := checked_any X B _ (hX.later (hb.mono hB)) (Nat.le_trans hB hb.size)
  have hagg : X.agg = .agg #[.bool X.leaf, .slice X.iA X.iN X.iC, .slice X.kA X.kN X.kC] := rfl
  obtain ⟨z, hz⟩ : ∃ z, chkN X = z := ⟨_, rfl⟩
  have HZ := Lib.hid hz
  rw [hz]
  rw [hagg] at hcall ⊢
  clear hX hagg hz
  go_enter Try.func14, Try.ntmps14
  go_wp2_with fail
  refine hcall.mono ?_
  rintro e w2 ⟨hb2, ⟨hok, rfl⟩ | ⟨hok, A, n, c, rfl, hn, hO⟩⟩
  · have hb3 := bel_alloc (bel_next hb hb2) (.cells #[.int .i64 0, .int .i64 0, .int .i64 0, .int .u64 0, .int .i64 0, .int .i64 0] 37)
    obtain rfl : z = 240 := HZ.out.symm.trans (chk_no hok)
    clear hb2 hok hcall
    go_wp2
    go_ret
    exact ⟨rfl, hb3⟩
  · have hb3 := fun o => bel_alloc (bel_next hb hb2) o
    obtain rfl : z = 0 := HZ.out.symm.trans (chk_yes hok)
    clear hb2 hok hcall hn hO
    go_wp2
    go_ret
    exact ⟨rfl, hb3 _⟩
set_option maxRecDepth 20000 in
set_option maxHeartbeats 2000000 in
theorem first_any (X : NoT) (B : Nat) (w : World) (hX : LieN w B X) (hB : B ≤ w.heap.size) :
    Calls Try.prog 17 #[X.agg] w (FirP X w) := by
  have hb := bel_alloc (Below.refl w.heap.size w) (.cells #[.bool X.leaf, .slice X.iA X.iN X.iC, .slice X.kA X.kN X.kC] 25)
  have hcall := checked_any X B _ (hX.later (hb.mono hB)) (Nat.le_trans hB hb.size)
  have hagg : X.agg = .agg #[.bool X.leaf, .slice X.iA X.iN X.iC, .slice X.kA X.kN X.kC] := rfl
  rw [hagg] at hcall ⊢
  have HX := Lib.hid hX
  clear hX hagg
  go_enter Try.func17, Try.ntmps17
  go_wp2_with fail
  refine hcall.mono ?_
  rintro e w2 ⟨hb2, ⟨hok, rfl⟩ | ⟨hok, A, n, c, rfl, hn, hO⟩⟩
  · have hb3 := bel_alloc (bel_next hb hb2) (.cells #[.int .i64 0, .int .i64 0, .int .i64 0, .int .u64 0, .int .i64 0, .int .i64 0] 37)
    have HK := Lib.hid hok
    clear hb2 hok hcall
    go_wp2
    go_ret2
    exact ⟨hb3, .inl ⟨HK.out, rfl⟩⟩
  · have hl := shape_len HX.out (okB_parts hok).1
    obtain ⟨x, L, hL⟩ : ∃ x L, X.ents = x :: L := by
      cases he : X.ents with
      | nil => rw [he] at hl; simp at hl
      | cons x L => exact ⟨x, L, rfl⟩
    have hf : X.fst = x.key := by unfold NoT.fst; rw [hL]
    have hE : EntsL w2 w2.heap.size A n X.ents := ⟨Shows.own hO, fun x hx => by
      have h := (ents_ok HX.out x hx).later ((bel_next hb hb2).mono hB)
      have hsz2 := (bel_next hb hb2).size
      cases x
      · exact ItT.Ok.more h (by omega)
      · exact KiT.Ok.more h (by omega)⟩
    obtain ⟨b, off, x', rfl, hbB, hx', x0⟩ := hE.cell (show 0 < n by omega)
    obtain rfl : x = x' := by rw [hL] at hx'; simpa using hx'
    have hn1 : (1 : Int) ≤ (n : Int) := by omega
    have hn0 : (0 : Int) < (n : Int) := by omega
    rw [Nat.add_zero] at x0
    have HK := Lib.hid hok
    have HF := Lib.hid hf
    have hb3 := bel_next hb hb2
    clear hb2 hok hcall hn hO hL hf hE hl hx' hb
    obtain ⟨W3, hW3⟩ : ∃ W3, w2.alloc (.cells #[.int .i64 X.all.1.c, .int .i64 X.all.1.i, .int .i64 (hiI X.all.1.v), .int .u64 (loI X.all.1.v), .int .i64 X.all.1.l, .int .i64 X.all.1.m] 37) = W3 := ⟨_, rfl⟩
    have hb4 : Below w.heap.size w W3 := by rw [← hW3]; exact bel_alloc hb3 _
    have y0 : W3.cell? ⟨b, off, none⟩ = some x.val := by rw [← hW3]; exact cell_keep x0 _
    have HW3 := Lib.hid hW3
    clear x0 hW3 hb3
    rcases x with x | x <;> simp only [EnT.val, EnT.key] at y0 HF <;>
    · go_upto_region 4 with fail
      rw [HW3.out]
      clear HW3
      go_wp2_with fail
      first | refine (itName_any x W3).mono ?_ | refine (kiName_any x W3).mono ?_
      rintro e w4 ⟨rfl, hb5⟩
      have hb6 := bel_next hb4 hb5
      clear hb5 hb4 y0
      go_wp2
      go_ret2
      exact ⟨hb6, .inr ⟨HK.out, by rw [HF.out]; rfl⟩⟩
set_option maxRecDepth 20000 in
set_option maxHeartbeats 2000000 in
theorem red14_any (X : NoT) (B : Nat) (w : World) (hX : LieN w B X) (hB : B ≤ w.heap.size) :
    Calls Try.prog 18 #[X.agg] w (RedP X w) := by
  have hb0 := bel_alloc (Below.refl w.heap.size w) (.cells #[.bool X.leaf, .slice X.iA X.iN X.iC, .slice X.kA X.kN X.kC] 25)
  have hb := bel_alloc hb0 (.cells #[.int .i64 0, .int .i64 0, .int .i64 0, .int .u64 0, .int .i64 0, .int .i64 0] 37)
  have hcall := checked_any X B _ (hX.later (hb.mono hB)) (Nat.le_trans hB hb.size)
  have hs := Six.new (w.alloc (.cells #[.bool X.leaf, .slice X.iA X.iN X.iC, .slice X.kA X.kN X.kC] 25)) (.int .i64 0) (.int .i64 0) (.int .i64 0) (.int .u64 0) (.int .i64 0) (.int .i64 0) 37
  rw [World.size_alloc] at hs
  have hagg : X.agg = .agg #[.bool X.leaf, .slice X.iA X.iN X.iC, .slice X.kA X.kN X.kC] := rfl
  rw [hagg] at hcall ⊢
  have HS := Lib.hid hs
  clear hX hagg hb0 hs
  go_enter Try.func18, Try.ntmps18
  go_wp2_with fail
  generalize (w.alloc (.cells #[.bool X.leaf, .slice X.iA X.iN X.iC, .slice X.kA X.kN X.kC] 25)).alloc (.cells #[.int .i64 0, .int .i64 0, .int .i64 0, .int .u64 0, .int .i64 0, .int .i64 0] 37) = W1 at *
  refine hcall.mono ?_
  rintro e w2 ⟨hb2, ⟨hok, rfl⟩ | ⟨hok, A, n, c, rfl, hn, hO⟩⟩
  · have hb3 := bel_alloc (bel_next hb hb2) (.cells #[.int .i64 0, .int .i64 0, .int .i64 0, .int .u64 0, .int .i64 0, .int .i64 0] 37)
    have hba := bel_alloc hb2 (.cells #[.int .i64 0, .int .i64 0, .int .i64 0, .int .u64 0, .int .i64 0, .int .i64 0] 37)
    obtain ⟨⟨r0, r1, r2, r3, r4, r5⟩, f0, f1, f2, f3, f4, f5⟩ := HS.out.below hba rfl
    have hbz := below_set6 hb3 (show w.heap.size ≤ w.heap.size + 1 by omega) (a := .int .i64 0) (b := .int .i64 0) (c := .int .i64 0) (d := .int .u64 0) (e := .int .i64 0) (f := .int .i64 0)
    have HK := Lib.hid hok
    clear hb2 hok hcall hb3 hba hb
    go_wp2
    refine bodyPost_ret (v := .tuple #[.agg #[.int .i64 0, .int .i64 0, .int .i64 0, .int .u64 0, .int .i64 0, .int .i64 0], .int .i64 240]) ?_ rfl ⟨hbz, .inl ⟨HK.out, rfl⟩⟩
    simp [results, Try.results18, go_sem, *]
  · have HK := Lib.hid hok
    obtain ⟨r, hr⟩ : ∃ r, X.all.1 = r := ⟨_, rfl⟩
    rw [hr]
    have HR := Lib.hid hr
    have hb3 := bel_alloc (bel_next hb hb2) (.cells #[.int .i64 r.c, .int .i64 r.i, .int .i64 (hiI r.v), .int .u64 (loI r.v), .int .i64 r.l, .int .i64 r.m] 37)
    have hba := bel_alloc hb2 (.cells #[.int .i64 r.c, .int .i64 r.i, .int .i64 (hiI r.v), .int .u64 (loI r.v), .int .i64 r.l, .int .i64 r.m] 37)
    obtain ⟨⟨r0, r1, r2, r3, r4, r5⟩, f0, f1, f2, f3, f4, f5⟩ := HS.out.below hba rfl
    have hbz := below_set6 hb3 (show w.heap.size ≤ w.heap.size + 1 by omega) (a := .int .i64 r.c) (b := .int .i64 r.i) (c := .int .i64 (hiI r.v)) (d := .int .u64 (loI r.v)) (e := .int .i64 r.l) (f := .int .i64 r.m)
    clear hb2 hok hcall hb3 hba hb hn hO hr
    go_wp2
    refine bodyPost_ret (v := .tuple #[.agg #[.int .i64 r.c, .int .i64 r.i, .int .i64 (hiI r.v), .int .u64 (loI r.v), .int .i64 r.l, .int .i64 r.m], .int .i64 0]) ?_ rfl ⟨hbz, .inr ⟨HK.out, by rw [HR.out]⟩⟩
    simp [results, Try.results18, go_sem, *]
end Go.Proofs.Ytnfohlabmidliaa
/-
  append onto a row of the call's own that a caller goes on with: which block it lies in then. No program in sight.
-/
namespace Go.Proofs.Ytnfohlabmidliaa
open Go.RowKit
set_option linter.unusedVariables false

section
variable {P : Program} (w : World)
theorem run_append_own_shows (base : Nat) (t ty e : TypeId) (i : TypeInfo) (z : Value) (size bytes : Nat) (ht : P.underlying t = some (.slice e)) (hi : P.info? e = some i) (hz : i.zero = some z)
    (hsize : i.size = size) (hby : i.bytes = bytes) (hzs : z.cells.size = size) (hsz : 0 < size)
    (v : Value) (n : Nat) (xs : List Value) (hown : w.ownsRow base e size v n xs)
    (B : Nat) (A : Option Addr) (m c : Nat) (news : List Value) (hr : Shows w B size A m news) (h1 : ∀ u ∈ news, u.oneCell' = true)
    (h63 : n + m ≤ maxLen) (hbytes : (n + m) * bytes ≤ 140737488355328) (hbase : base ≤ w.heap.size) :
    ∃ A' c' w', (Builtin.append_ #[t, t] ty #[v, .slice A m c]).run P w = .ok (.slice A' (n + m) c') w' ∧ w'.ownsRow base e size (.slice A' (n + m) c') (n + m) (xs ++ news) ∧ w.grownBy w' v.ownBlock ∧ Below base w w' ∧ ((Value.slice A' (n + m) c').ownBlock = v.ownBlock ∨ (Value.slice A' (n + m) c').ownBlock = some w.heap.size) := by
  have key : ∃ v' w', (Builtin.append_ #[t, t] ty #[v, .slice A m c]).run P w = .ok v' w' ∧ w'.ownsRow base e size v' (n + m) (xs ++ news) ∧ w.grownBy w' v.ownBlock ∧ (v'.ownBlock = v.ownBlock ∨ v'.ownBlock = some w.heap.size) := by
    rcases A with _ | ad
    · have hm : m = 0 := by
        rcases Nat.eq_zero_or_pos m with h0 | h0
        · exact h0
        · obtain ⟨_, _, h, _⟩ := hr.2 h0
          cases h
      subst hm
      have hn : news = [] := List.eq_nil_of_length_eq_zero (by simpa using hr.1)
      subst hn
      refine ⟨v, w, ?_, by simpa using hown, World.grownBy.refl w _, .inl rfl⟩
      rcases hown.2 with ⟨rfl, rfl⟩ | ⟨g, cap, cur, rfl, _, _, hnc, _⟩
      · simp [Builtin.append_, run_underlying ht, sizeOf, typeInfo, hi, Builtin.lenOf, Builtin.firstCells]
      · simp [Builtin.append_, run_underlying ht, sizeOf, typeInfo, hi, Builtin.lenOf, Builtin.firstCells, hnc, storeCells]
    · have hcells : ∀ j u, news[j]? = some u → w.cell? (ad.add j) = some u := by
        intro j u hu
        rcases Nat.eq_zero_or_pos m with h0 | h0
        · subst h0
          have hn : news = [] := List.eq_nil_of_length_eq_zero (by simpa using hr.1)
          subst hn
          simp at hu
        · obtain ⟨b, off, h, _, hc⟩ := hr.2 h0
          injection h with h
          subst h
          rw [addr_add]
          exact hc j u hu
      obtain ⟨v', w', hrun, h2, h3, _, h4⟩ := run_append_own_at (P := P) w base t ty e i z size bytes ht hi hz hsize hby hzs hsz v n xs hown ad m c news hr.1 hcells h1 h63 hbytes hbase
      exact ⟨v', w', hrun, h2, h3, h4⟩
  obtain ⟨v', w', hrun, h2, h3, h4⟩ := key
  obtain ⟨A', c', rfl, _, _⟩ := own_form h2
  exact ⟨A', c', w', hrun, h2, h3, (Below.refl base w).grown h3 hbase fun k hk => (hown.lt k hk).1, h4⟩

theorem wp_appG {o : Oper} {a : Act} {K : Act → World → Prop} {Q : Exit → Act → World → Prop} (s x : Operand) (t : TypeId)
    (ho : o.op = .call { callee := .builtin .append, args := #[s, x], argTypes := #[t, t] })
    (base : Nat) (e : TypeId) (i : TypeInfo) (z : Value) (size bytes : Nat) (ht : P.underlying t = some (.slice e)) (hi : P.info? e = some i) (hz : i.zero = some z)
    (hsize : i.size = size) (hby : i.bytes = bytes) (hzs : z.cells.size = size) (hsz : 0 < size)
    (v : Value) (n : Nat) (xs : List Value) (hs : a.eval s = v) (hown : w.ownsRow base e size v n xs)
    (B : Nat) (A : Option Addr) (m c : Nat) (news : List Value) (hx : a.eval x = .slice A m c) (hr : Shows w B size A m news) (h1 : ∀ u ∈ news, u.oneCell' = true)
    (h63 : n + m ≤ maxLen) (hbytes : (n + m) * bytes ≤ 140737488355328) (hbase : base ≤ w.heap.size)
    (h : ∀ A' c' w', w'.ownsRow base e size (.slice A' (n + m) c') (n + m) (xs ++ news) → w.grownBy w' v.ownBlock → Below base w w' → ((Value.slice A' (n + m) c').ownBlock = v.ownBlock ∨ (Value.slice A' (n + m) c').ownBlock = some w.heap.size) → K (a.put o.dst (.slice A' (n + m) c')) w') :
    o.wp P a w K Q := by
  obtain ⟨A', c', w', hrun, h2, h3, h4, h5⟩ := run_append_own_shows (P := P) w base t o.type e i z size bytes ht hi hz hsize hby hzs hsz v n xs hown B A m c news hr h1 h63 hbytes hbase
  unfold Oper.wp execOp
  simp only [ho, resolve, invoke, builtin, Sem.run_bind, Sem.run_pure, Result.andThen_ok, List.map_toArray, List.map_cons, List.map_nil, hs, hx, hrun]
  exact h A' c' w' h2 h3 h4 h5

theorem wpList_appG {ops : Array Oper} {rest : List Oper} {o : Oper} {a : Act} {Q : Exit → Act → World → Prop} (hgd : o.guard = none) (s x : Operand) (t : TypeId)
    (ho : o.op = .call { callee := .builtin .append, args := #[s, x], argTypes := #[t, t] })
    (base : Nat) (e : TypeId) (i : TypeInfo) (z : Value) (size bytes : Nat) (ht : P.underlying t = some (.slice e)) (hi : P.info? e = some i) (hz : i.zero = some z)
    (hsize : i.size = size) (hby : i.bytes = bytes) (hzs : z.cells.size = size) (hsz : 0 < size)
    (v : Value) (n : Nat) (xs : List Value) (hs : a.eval s = v) (hown : w.ownsRow base e size v n xs)
    (B : Nat) (A : Option Addr) (m c : Nat) (news : List Value) (hx : a.eval x = .slice A m c) (hr : Shows w B size A m news) (h1 : ∀ u ∈ news, u.oneCell' = true)
    (h63 : n + m ≤ maxLen) (hbytes : (n + m) * bytes ≤ 140737488355328) (hbase : base ≤ w.heap.size)
    (h : ∀ A' c' w', w'.ownsRow base e size (.slice A' (n + m) c') (n + m) (xs ++ news) → w.grownBy w' v.ownBlock → Below base w w' → ((Value.slice A' (n + m) c').ownBlock = v.ownBlock ∨ (Value.slice A' (n + m) c').ownBlock = some w.heap.size) → wpList P ops Q rest (a.put o.dst (.slice A' (n + m) c')) w') :
    wpList P ops Q (o :: rest) a w :=
  wpList_plain hgd fun _ hK => wp_appG w s x t ho base e i z size bytes ht hi hz hsize hby hzs hsz v n xs hs hown B A m c news hx hr h1 h63 hbytes hbase fun A' c' w' h2 h3 h4 h5 => hK _ _ (h A' c' w' h2 h3 h4 h5)

end
/-- From w to w' nothing turned but the row v0, which is now v (or has moved to a new block). -/
structure Gr (v0 : Value) (w : World) (v : Value) (w' : World) : Prop where
  grown : w.grownBy w' v0.ownBlock
  own : ∀ j, v.ownBlock = some j → w.heap.size ≤ j ∨ v0.ownBlock = some j
theorem Gr.refl (v : Value) (w : World) : Gr v w v w := ⟨World.grownBy.refl w _, fun j h => .inr h⟩
theorem Gr.alloc {v0 v : Value} {w w' : World} (h : Gr v0 w v w') (o : Obj) : Gr v0 w v (w'.alloc o) := ⟨h.grown.trans (World.grownBy_alloc w' o _), h.own⟩
theorem Gr.drew {v0 v : Value} {w w' : World} (h : Gr v0 w v w') : Gr v0 w v w'.drew := ⟨⟨h.grown.os, h.grown.tape, h.grown.output, h.grown.size, h.grown.block⟩, h.own⟩
theorem Gr.undrew {v0 v : Value} {w w' : World} (h : Gr v0 w.drew v w') : Gr v0 w v w' := ⟨⟨h.grown.os, h.grown.tape, h.grown.output, h.grown.size, h.grown.block⟩, h.own⟩
theorem Gr.app {v0 v v' : Value} {w w1 w2 : World} (h : Gr v0 w v w1) (hg : w1.grownBy w2 v.ownBlock) (ho : v'.ownBlock = v.ownBlock ∨ v'.ownBlock = some w1.heap.size) : Gr v0 w v' w2 :=
  ⟨h.grown.andThen hg h.own, fun j hj => by
    rcases ho with e | e
    · exact h.own j (e ▸ hj)
    · rw [e] at hj
      injection hj with hj
      have := h.grown.size
      exact .inl (by omega)⟩
theorem Gr.call {v0 v v' : Value} {w w1 w2 : World} (h : Gr v0 w v w1) (k : Gr v w1 v' w2) : Gr v0 w v' w2 :=
  ⟨h.grown.andThen k.grown h.own, fun j hj => by
    rcases k.own j hj with e | e
    · have := h.grown.size
      exact .inl (by omega)
    · exact h.own j e⟩
theorem Gr.later {v0 v : Value} {w w1 w2 : World} (h : Gr v0 w v w1) (k : Below w1.heap.size w1 w2) : Gr v0 w v w2 :=
  ⟨h.grown.trans ⟨k.os, k.tape, k.output, k.size, fun i hi _ => k.block i hi⟩, h.own⟩
theorem Gr.below {base n : Nat} {e : TypeId} {size : Nat} {v0 v : Value} {xs : List Value} {w w' : World} (h : Gr v0 w v w') (ho : w.ownsRow base e size v0 n xs) (hb : base ≤ w.heap.size) : Below base w w' :=
  (Below.refl base w).grown h.grown hb fun k hk => (ho.lt k hk).1
theorem Gr.size {v0 v : Value} {w w' : World} (h : Gr v0 w v w') : w.heap.size ≤ w'.heap.size := h.grown.size
theorem Gr.blk {v0 v : Value} {w w' : World} {base n size g : Nat} {e t : TypeId} {xs : List Value} {C : Array Value} {fr : Nat × Nat} (h : Gr v0 w v w') (ho : w.ownsRow base e size v0 n xs) (hb : w.heap[g]? = some (.cells C t fr)) (hne : t ≠ e) : w'.heap[g]? = some (.cells C t fr) :=
  blk_other hb h.grown (own_blk_ne ho hb hne)
theorem Gr.row {v0 v u : Value} {w w' : World} {base base' n n' size size' : Nat} {e t : TypeId} {xs ys : List Value} (h : Gr v0 w v w') (ho : w.ownsRow base e size v0 n xs) (hu : w.ownsRow base' t size' u n' ys) (hne : t ≠ e) : w'.ownsRow base' t size' u n' ys :=
  hu.kept h.grown (by
    rcases hu.2 with ⟨e1, _⟩ | ⟨g, cap, cur, e1, _, hh, _⟩
    · rw [e1]; exact .inl rfl
    · rw [e1]
      exact .inr (own_blk_ne ho hh hne))
end Go.Proofs.Ytnfohlabmidliaa
namespace Go.Proofs.Ytnfohlabmidliaa
open Go.RowKit

theorem bytes_nil {w : World} {B n : Nat} {l : List UInt8} (h : Bytes w B none n l) : n = 0 ∧ l = [] := by
  have hn0 : n = 0 := by
    rcases Nat.eq_zero_or_pos n with h0 | h0
    · exact h0
    · obtain ⟨_, _, h, _⟩ := h.2 h0
      cases h
  exact ⟨hn0, List.eq_nil_of_length_eq_zero (by rw [h.len, hn0])⟩

set_option maxRecDepth 20000 in
theorem u8_info : ∃ i, Try.prog.info? 5 = some i ∧ i.zero = some (.int .u8 0) ∧ i.size = 1 ∧ i.bytes = 1 := ⟨Try.t5, by kernel_rfl, by kernel_rfl, by kernel_rfl, by kernel_rfl⟩

set_option maxRecDepth 20000 in
set_option maxHeartbeats 1000000 in
theorem clone_any (A : Option Addr) (n c : Nat) (l : List UInt8) (B : Nat) (w : World) (h : Bytes w B A n l) (hA : A = none → c = 0) (hB : B ≤ w.heap.size) (hn : n ≤ 140737488355328) :
    Calls Try.prog 24 #[.slice A n c] w (GivesBytes 5 l w) := by
  have hnil := fun (W : World) (a : Option Addr) (n c : Nat) => Lib.run_eql_slice_nil (P := Try.prog) W 32 5 a n c 0 0 Try.underlying32
  rcases A with _ | a
  · obtain rfl := hA rfl
    obtain ⟨rfl, rfl⟩ := bytes_nil h
    go_enter Try.func24, Try.ntmps24
    go_wp2
    go_ret
    exact ⟨none, 0, 0, rfl, World.ownsRow_nil _ _ _ _, Below.refl _ _⟩
  · obtain ⟨i0, hi, hz0, hz1, hz2⟩ := u8_info
    have hown := World.ownsRow_made (base := w.heap.size) (e := 5) (size := 1) w #[] 0 (Nat.le_refl _) (Nat.zero_le _) rfl
    have hs := (h.more hB).alloc (Nat.le_refl _) (.cells #[] 5)
    go_enter Try.func24, Try.ntmps24
    go_wp2_with (at_builtin; refine wpList_append_shows _ rfl _ _ _ rfl w.heap.size 5 i0 (.int .u8 0) 1 1 Try.underlying32 hi hz0 hz1 hz2 rfl (by decide) _ _ _ rfl hown w.heap.size _ _ _ (l.map bv) rfl hs (bv_one l) ?c3 ?c4 ?c5 ?_)
    case c3 => unfold maxLen; omega
    case c4 => omega
    case c5 => simp
    · intro A' c' w1 hown' _ hbel
      go_wp2
      go_ret
      exact ⟨A', n, c', by simp, hown', ((Below.refl _ _).alloc (Nat.le_refl _) _).trans hbel⟩
end Go.Proofs.Ytnfohlabmidliaa
