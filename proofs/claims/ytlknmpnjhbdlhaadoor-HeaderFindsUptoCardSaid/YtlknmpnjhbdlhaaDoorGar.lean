import Derived.Test.YtlknmpnjhbdlhaaDoorGap
import Derived.Test.YtlknmpnjhbdlhaaDoorGan
import Derived.Test.YtlknmpnjhbdlhaaDoorGaq
import Derived.Test.YtlknmpnjhbdlhaaDoorGag
import Derived.Test.YtlknmpnjhbdlhaaDoorGao
import Derived.Test.YtlknmpnjhbdlhaaDoorGab
/-
  Layer 12: the reference's Find.
-/
namespace Go.Proofs.YtlknmpnjhbdlhaaDoor
open Go.RowKit
set_option linter.unusedVariables false

theorem blk_bytes {w : World} {B n k b off : Nat} {l : List UInt8} (h : Bytes w B (some ⟨b, off, none⟩) n l) (hk : 64 * k + 64 ≤ n) : Bytes w B (some ⟨b, off + 64 * k, none⟩) 64 (Hdr.blk l k) := by
  have hl : l.length = n := by have h1 := h.1; simpa using h1
  obtain ⟨b', off', e, hb, hc⟩ := h.2 (by omega)
  cases e
  refine ⟨by rw [List.length_map, Hdr.blk_len l k (by omega)], fun _ => ⟨b, off + 64 * k, rfl, hb, fun j v hj => ?_⟩⟩
  rw [List.getElem?_map] at hj
  unfold Hdr.blk at hj
  have hj64 : j < 64 := by
    rcases Nat.lt_or_ge j 64 with h' | h'
    · exact h'
    · rw [List.getElem?_eq_none (by rw [List.length_take]; omega)] at hj
      cases hj
  rw [List.getElem?_take_of_lt hj64, List.getElem?_drop, ← List.getElem?_map] at hj
  rw [Nat.add_assoc]
  exact hc _ _ hj
set_option maxRecDepth 100000 in
set_option maxHeartbeats 8000000 in
theorem refFindH_any (X : FileT) (w : World) (hL : LieF w w.heap.size X) (hr : X.right = true) :
    Calls Tryd.prog 24 #[X.agg] w fun e w' => e = .returned (.tuple #[.agg #[.int .u64 (fG (Hdr.lastH X.all) : Nat), .int .i64 (fA (Hdr.lastH X.all) : Nat)], .int .i64 (fP (Hdr.lastH X.all) : Nat), .bool (Hdr.lastH X.all).isSome]) ∧ Below w.heap.size w w' := by
  have hln := right_all hL hr
  have hb1 := bel_alloc (bel_alloc (Below.refl w.heap.size w) (.cells #[.slice X.F.A X.F.n X.F.c, .slice X.lA X.ln X.lc, .int .i64 X.fuse, .int .i64 X.fault, .bool X.off] 37)) (.cells #[.int .u64 0, .int .i64 0] 24)
  obtain ⟨f0, f1, f2, f3, f4⟩ := (FBox.new w X 37).later (bel_alloc (Below.refl _ _) (.cells #[.int .u64 0, .int .i64 0] 24))
  have hh1 : HBox ((w.alloc (.cells #[.slice X.F.A X.F.n X.F.c, .slice X.lA X.ln X.lc, .int .i64 X.fuse, .int .i64 X.fault, .bool X.off] 37)).alloc (.cells #[.int .u64 0, .int .i64 0] 24)) (w.alloc (.cells #[.slice X.F.A X.F.n X.F.c, .slice X.lA X.ln X.lc, .int .i64 X.fuse, .int .i64 X.fault, .bool X.off] 37)).heap.size 0 0 := heap_alloc_new _ _
  rw [World.size_alloc] at hh1
  have hcall := refAll_any X w.heap.size ((w.alloc (.cells #[.slice X.F.A X.F.n X.F.c, .slice X.lA X.ln X.lc, .int .i64 X.fuse, .int .i64 X.fault, .bool X.off] 37)).alloc (.cells #[.int .u64 0, .int .i64 0] 24)) (hL.later hb1) hb1.size hr
  obtain ⟨l, hl⟩ : ∃ l, X.all = l := ⟨_, rfl⟩
  rw [hl] at hcall hln ⊢
  obtain ⟨n, hn⟩ : ∃ n, X.long = n := ⟨_, rfl⟩
  rw [hn] at hcall hln
  obtain ⟨hnl, hnm⟩ := hln
  simp only [FileT.agg, PcT.val] at hcall ⊢
  clear hL hr hl hn
  have HNL := Lib.hid hnl
  have HH1 := Lib.hid hh1
  have HB1 := Lib.hid hb1
  go_enter Tryd.func24, Tryd.ntmps24
  go_wp2_with fail
  refine hcall.mono ?_
  rintro e W2 ⟨A, c, rfl, HO, hb2⟩
  have hh2 := HH1.out.later hb2
  have hb3 := bel_next HB1.out hb2
  have hn5 : n ≤ 524288 := by omega
  have HBY := Lib.hid (Bytes.own HO.out)
  obtain ⟨-, hnc, hcm⟩ := own_facts HO.out
  have hh3 : HBox (W2.alloc (.cells #[.int .u64 0, .int .i64 0] 24)) W2.heap.size 0 0 := heap_alloc_new _ _
  have hb4 := bel_alloc (Below.refl W2.heap.size W2) (.cells #[.int .u64 0, .int .i64 0] 24)
  clear hcall f0 f1 f2 f3 f4 hb1 hh1 HH1 HB1 hb2 HO hnm hnl
  obtain ⟨m, hm⟩ : ∃ m, n / 64 = m := ⟨_, rfl⟩
  have hm1 : 64 * m ≤ n := by omega
  have hm2 : n < 64 * m + 64 := by omega
  go_wp2_with fail
  generalize W2.alloc (.cells #[.int .u64 0, .int .i64 0] 24) = W3 at *
  obtain ⟨D, hD⟩ : ∃ D, W2.heap.size = D := ⟨_, rfl⟩
  rw [hD] at hh3 hb4 HBY ⊢
  have HH3 := Lib.hid hh3
  have HH2 := Lib.hid hh2
  have HB3 := Lib.hid hb3
  have HML := Lib.hid (show l.length / 64 = m by rw [← HNL.out]; exact hm)
  clear hh3 hh2 hb3 hm
  go_loopw [7, 8, 9] (fun pv fv iv wr => ∃ (k : Nat) (L : Option (Nat × Nat × Nat)), k ≤ m ∧ iv = .int .i64 ((64 * k : Nat) : Int) ∧ pv = .int .i64 (fP L : Nat) ∧ fv = .bool L.isSome ∧ Hid (Hdr.lastK l k = L) ∧ Hid (HBox wr D (fG L) (fA L : Nat)) ∧ Hid (Below D W2 wr)) (fun _ _ iv _ => n + 64 - (intOf iv).toNat)
  case atStart => exact ⟨0, none, Nat.zero_le _, rfl, rfl, rfl, Lib.hid rfl, HH3, Lib.hid hb4⟩
  case round =>
    obtain ⟨k, L, hk, rfl, rfl, rfl, HLK, HH, HB⟩ := hrel
    rename World => wr
    clear HH3 hb4
    obtain ⟨z, hz⟩ : ∃ z, 64 * k = z := ⟨_, rfl⟩
    rw [hz]
    by_cases hlt : k < m
    · have hlt' : ((z : Int) + 64 ≤ (n : Int)) = True := eq_true (by omega)
      have hz64 : z + 64 ≤ n := by omega
      obtain ⟨b, off, rfl, hbD, -⟩ := HBY.out.2 (by omega)
      have hby := blk_bytes (HBY.out.below HB.out) (k := k) (by omega)
      rw [hz] at hby
      have hbl := Hdr.blk_len l k (by rw [← HNL.out]; omega)
      have harr := run_arrayAt (P := Tryd.prog) (w := wr) 25 5 64 (some ⟨b, off + z, none⟩) 64 (c - z) Tryd.underlying25 (Nat.le_refl _)
      have hsy := refSaysH_any (Hdr.blk l k) hbl wr
      go_upto_region 7 with (first
        | (with_reducible refine wpList_loadRow rfl (.tmp 28) rfl rfl hby (by omega) Tryd.underlying25 (info64 hbl) ?_)
        | (go_at_call 14; refine hsy.mono ?_; rintro e w5 ⟨rfl, hb5⟩))
      have hba := bel_alloc hb5 (.cells #[.int .u64 (sayG (Hdr.blk l k) : Nat), .int .i64 (sayA (Hdr.blk l k) : Nat)] 24)
      have hs5 : HBox (w5.alloc (.cells #[.int .u64 (sayG (Hdr.blk l k) : Nat), .int .i64 (sayA (Hdr.blk l k) : Nat)] 24)) w5.heap.size (sayG (Hdr.blk l k)) (sayA (Hdr.blk l k) : Nat) := heap_alloc_new w5 _
      have hh6 := HH.out.later hba
      have hb6 : Below D W2 (w5.alloc (.cells #[.int .u64 (sayG (Hdr.blk l k) : Nat), .int .i64 (sayA (Hdr.blk l k) : Nat)] 24)) := HB.out.trans (hba.mono (by have := HH.out.lt; omega))
      generalize w5.alloc (.cells #[.int .u64 (sayG (Hdr.blk l k) : Nat), .int .i64 (sayA (Hdr.blk l k) : Nat)] 24) = W6 at *
      generalize w5.heap.size = g6 at *
      clear hsy harr hby hb5 hba HH HB
      cases hS : Hdr.saysL (Hdr.blk l k) with
      | none =>
        have hsn := (say_none hS).2.2
        have HN2 := Lib.hid (show Hdr.lastK l (k + 1) = L by rw [Hdr.last_no hS]; exact HLK.out)
        have HH6 := Lib.hid hh6
        have HB6 := Lib.hid hb6
        clear hS hsn hs5 hh6 hb6
        go_wp2
        go_roundw
        case rel => exact ⟨k + 1, L, by omega, by rw [← hz]; go_num, rfl, rfl, HN2, HH6, HB6⟩
        case measure => simp [intOf]; omega
      | some ga =>
        obtain ⟨g, a⟩ := ga
        obtain ⟨e1, e2, e3⟩ := say_some hS
        have HN2 := Lib.hid (show Hdr.lastK l (k + 1) = some (g, a, z) by rw [Hdr.last_yes hS, hz])
        rw [e1, e2] at hs5
        rw [e1, e2]
        clear hS e1 e2 e3
        have x0 := hs5.c0
        have x1 := hs5.c1
        have q0 := hh6.c0
        have q1 := hh6.c1
        have p0 := hh6.soft 0
        have p1 := hh6.soft 1
        have HH6 := Lib.hid (show HBox _ D (fG (some (g, a, z))) (fA (some (g, a, z)) : Nat) from set2_box hh6 g (a : Nat))
        have HB6 := Lib.hid (below_set2 (x := .int .u64 (g : Nat)) (y := .int .i64 (a : Nat)) hb6 (Nat.le_refl D))
        clear hs5 hh6 hb6
        go_wp2
        go_roundw
        case rel => exact ⟨k + 1, some (g, a, z), by omega, by rw [← hz]; go_num, rfl, rfl, HN2, HH6, HB6⟩
        case measure => simp [intOf]; omega
    · have hlt' : ((z : Int) + 64 ≤ (n : Int)) = False := eq_false (by omega)
      obtain rfl : k = m := by omega
      have hLL : L = Hdr.lastH l := by rw [← HLK.out, ← HML.out]; rfl
      subst hLL
      have q0 := HH.out.c0
      have q1 := HH.out.c1
      have hh5 := HH2.out.later (show Below W2.heap.size W2 wr by rw [hD]; exact HB.out)
      have y0 := hh5.soft 0
      have y1 := hh5.soft 1
      have HB9 := Lib.hid (fun (x y : Value) => below_set2 (x := x) (y := y) (HB3.out.trans (HB.out.mono (by rw [← hD]; exact HB3.out.size))) (show w.heap.size ≤ w.heap.size + 1 by omega))
      have HS9 := Lib.hid (set2_box hh5 (fG (Hdr.lastH l)) (fA (Hdr.lastH l) : Nat))
      have y2 := hh5.c0
      have y3 := hh5.c1
      have z0 := HS9.out.c0
      have z1 := HS9.out.c1
      have hb9 := HB9.out (.int .u64 (fG (Hdr.lastH l) : Nat)) (.int .i64 (fA (Hdr.lastH l) : Nat))
      have HBF := Lib.hid hb9
      clear hb9 hh5
      go_wp2
      refine bodyPost_ret (v := .tuple #[.agg #[.int .u64 (fG (Hdr.lastH l) : Nat), .int .i64 (fA (Hdr.lastH l) : Nat)], .int .i64 (fP (Hdr.lastH l) : Nat), .bool (Hdr.lastH l).isSome]) ?_ rfl ⟨rfl, HBF.out⟩
      simp [results, Tryd.results24, go_sem, *]
end Go.Proofs.YtlknmpnjhbdlhaaDoor
/-
  Layer 12: the law's finds.
-/
namespace Go.Proofs.YtlknmpnjhbdlhaaDoor
open Go.RowKit
set_option linter.unusedVariables false

theorem last_place (l : List UInt8) : ∀ (k : Nat) {g a p : Nat}, Hdr.lastK l k = some (g, a, p) → p % 64 = 0 ∧ p + 64 ≤ 64 * k
  | 0, g, a, p, h => by cases h
  | k + 1, g, a, p, h => by
    rw [Hdr.lastK] at h
    rcases hs : Hdr.saysL (Hdr.blk l k) with _ | ⟨g', a'⟩
    · rw [hs] at h
      have := last_place l k h
      omega
    · rw [hs] at h
      injection h with h
      injection h with _ h
      injection h with _ h
      omega
theorem lastH_place {l : List UInt8} {g a p : Nat} (h : Hdr.lastH l = some (g, a, p)) : p % 64 = 0 ∧ p + 64 ≤ l.length := by
  have := last_place l _ h
  omega
set_option maxRecDepth 20000 in
set_option maxHeartbeats 4000000 in
theorem finds_any (X : FileT) (l : List UInt8) (L : Option (Nat × Nat × Nat)) (w : World) (htab : Tab w) (hLi : LieF w w.heap.size X) (hs : X.all = l) (hr : X.right = true) (hL : Hdr.lastH l = L) :
    Calls Tryd.prog 26 #[X.agg, .agg #[.int .u64 (fG L : Nat), .int .i64 (fA L : Nat)], .bool L.isSome] w fun e w' => e = .returned (.bool true) ∧ Below w.heap.size w w' := by
  have HF := Lib.hid (fun W (h : Below w.heap.size w W) => findS X l L W (htab.below h htab.lt) ((hLi.later h).more h.size) hs hr hL)
  have HN := Lib.hid (fun W (h : Below w.heap.size w W) => lenHS X l.length W ((hLi.later h).more h.size) hr (by rw [hs]))
  have hlm : l.length ≤ 524288 := by rw [← hs]; exact (right_all hLi hr).2
  have HPL := Lib.hid (fun (g a p : Nat) (h : L = some (g, a, p)) => lastH_place (l := l) (hL.trans h))
  simp only [FileT.agg, PcT.val] at HF HN ⊢
  clear hr htab hLi hs hL
  go_enter Tryd.func26, Tryd.ntmps26
  go_wp2_with fail
  obtain ⟨W1, hW1⟩ : ∃ W1, (w.alloc (.cells #[.slice X.F.A X.F.n X.F.c, .slice X.lA X.ln X.lc, .int .i64 X.fuse, .int .i64 X.fault, .bool X.off] 37)).alloc (.cells #[.int .u64 (fG L : Nat), .int .i64 (fA L : Nat)] 24) = W1 := ⟨_, rfl⟩
  have hb1 : Below w.heap.size w W1 := by rw [← hW1]; exact bel_alloc (bel_alloc (Below.refl _ _) _) _
  have hx1 : FBox W1 w.heap.size X := by rw [← hW1]; exact (FBox.new w X 37).later (bel_alloc (Below.refl _ _) _)
  have hh1 : HBox W1 (w.heap.size + 1) (fG L) (fA L : Nat) := by
    have h : HBox ((w.alloc (.cells #[.slice X.F.A X.F.n X.F.c, .slice X.lA X.ln X.lc, .int .i64 X.fuse, .int .i64 X.fault, .bool X.off] 37)).alloc (.cells #[.int .u64 (fG L : Nat), .int .i64 (fA L : Nat)] 24)) (w.alloc (.cells #[.slice X.F.A X.F.n X.F.c, .slice X.lA X.ln X.lc, .int .i64 X.fuse, .int .i64 X.fault, .bool X.off] 37)).heap.size (fG L) (fA L : Nat) := heap_alloc_new _ _
    rw [World.size_alloc] at h
    rw [← hW1]
    exact h
  rw [hW1]
  clear hW1
  refine (HF.out _ hb1).mono ?_
  rintro e W2 ⟨rfl, hb2⟩
  have hbq := bel_alloc hb2 (.cells #[.int .u64 (fG L : Nat), .int .i64 (fA L : Nat)] 24)
  have hb3 := bel_next hb1 hbq
  have hk3 : HBox (W2.alloc (.cells #[.int .u64 (fG L : Nat), .int .i64 (fA L : Nat)] 24)) W2.heap.size (fG L) (fA L : Nat) := heap_alloc_new W2 _
  have hx3 := hx1.later hbq
  have hh3 := hh1.later hbq
  go_upto_region 2 with fail
  generalize W2.alloc (.cells #[.int .u64 (fG L : Nat), .int .i64 (fA L : Nat)] 24) = W3 at *
  generalize W2.heap.size = gk at *
  clear hb1 hb2 hbq hx1 hh1 HF
  obtain ⟨f0, f1, f2, f3, f4⟩ := hx3
  have y0 := hk3.c0
  have y1 := hk3.c1
  have z0 := hh3.c0
  have z1 := hh3.c1
  rcases L with _ | ⟨g, a, p⟩
  · show Code.wp _ _ _ _ _
    simp only [fG, fA, fP, Option.isSome] at *
    go_wp2_with fail
    go_ret
    exact ⟨rfl, hb3⟩
  · obtain ⟨h64, hle⟩ := HPL.out g a p rfl
    have hln := Lib.hid (HN.out _ hb3)
    have hp1 : ((p : Int) % 64 == 0) = true := by rw [beq_iff_eq]; omega
    have hp2 : ((p : Int).tmod 64 == 0) = true := by rw [beq_iff_eq, Int.tmod_eq_emod_of_nonneg (by omega)]; omega
    have hp3 : (p : Int) + 64 ≤ (l.length : Int) := by omega
    have hpl : p ≤ 524288 := by omega
    simp only [fG, fA, fP, Option.isSome] at *
    clear HPL HN h64 hle
    generalize l.length = ln at *
    go_wp2_with fail
    refine hln.out.mono ?_
    rintro e W4 ⟨rfl, hb4⟩
    have hb5 := bel_next hb3 hb4
    clear hln f0 f1 f2 f3 f4 y0 y1 z0 z1
    go_wp2
    go_ret
    exact ⟨rfl, hb5⟩
end Go.Proofs.YtlknmpnjhbdlhaaDoor
/-
  Layer 12: the law's steps.
-/
namespace Go.Proofs.YtlknmpnjhbdlhaaDoor
open Go.RowKit
set_option linter.unusedVariables false

/-- The blocks other than one are as they were. -/
structure OthB (g : Nat) (w W : World) : Prop where
  size : w.heap.size ≤ W.heap.size
  o : ∀ k, k < w.heap.size → k ≠ g → W.heap[k]? = w.heap[k]?
theorem OthB.drewN (g : Nat) (w : World) (k : Nat) : OthB g w (w.drewN k) := ⟨Nat.le_refl _, fun _ _ _ => rfl⟩
theorem OthB.next {g : Nat} {w W W' : World} (h : OthB g w W) (hb : Below W.heap.size W W') : OthB g w W' := ⟨Nat.le_trans h.size hb.size, fun k hk hne => (hb.block k (Nat.lt_of_lt_of_le hk h.size)).trans (h.o k hk hne)⟩
theorem OthB.set {g : Nat} {w W : World} (h : OthB g w W) (i : Nat) (u : Value) : OthB g w (W.setCell ⟨g, i, none⟩ u) := ⟨by rw [size_set]; exact h.size, fun k hk hne => (Below.heap_setCell _ _ _ _ hne).trans (h.o k hk hne)⟩
theorem OthB.cell {g : Nat} {w W : World} (h : OthB g w W) {k i : Nat} (hk : k < w.heap.size) (hne : k ≠ g) : W.cell? ⟨k, i, none⟩ = w.cell? ⟨k, i, none⟩ := World.cell?_of_block (h.o k hk hne)
theorem set5_other {W : World} {g k : Nat} (u : Unit) (h : k ≠ g) {a b c d e : Value} : (set5F W g a b c d e).heap[k]? = W.heap[k]? := by
  unfold set5F
  rw [Below.heap_setCell _ _ _ _ h, Below.heap_setCell _ _ _ _ h, Below.heap_setCell _ _ _ _ h, Below.heap_setCell _ _ _ _ h, Below.heap_setCell _ _ _ _ h]
theorem FAt.other2 {W : World} {g k : Nat} {X : FileT} (h : FAt W g X) (hk : g ≠ k) (ha : AwayF X k) (x y : Value) : FAt ((W.setCell ⟨k, 0, none⟩ x).setCell ⟨k, 1, none⟩ y) g X :=
  ⟨(h.v.other x hk).other y hk, by rw [size_set, size_set]; exact (h.l.setAway ha 0 x).setAway ha 1 y, h.a⟩
/-- A step's variable. -/
def SBox (w : World) (h : Nat) (x : StepT) : Prop := w.heap[h]? = some (.cells #[.slice x.p.A x.p.n x.p.c, .int .u64 (x.g : Int), .int .i64 x.a] 84 (0, 0))
theorem SBox.later {w w' : World} {h : Nat} {x : StepT} (hb : SBox w h x) (hl : Below w.heap.size w w') : SBox w' h x := blk_later hb hl
theorem SBox.c0 {w : World} {h : Nat} {x : StepT} (hb : SBox w h x) : w.cell? ⟨h, 0, none⟩ = some (.slice x.p.A x.p.n x.p.c) := (cell_of_row _ _ 0 _ _ _ hb).trans rfl
theorem SBox.c1 {w : World} {h : Nat} {x : StepT} (hb : SBox w h x) : w.cell? ⟨h, 1, none⟩ = some (.int .u64 (x.g : Int)) := (cell_of_row _ _ 1 _ _ _ hb).trans rfl
theorem SBox.c2 {w : World} {h : Nat} {x : StepT} (hb : SBox w h x) : w.cell? ⟨h, 2, none⟩ = some (.int .i64 x.a) := (cell_of_row _ _ 2 _ _ _ hb).trans rfl
theorem flat_snoc (lo : List (List UInt8)) (P : List UInt8) : (lo ++ [P]).flatten = lo.flatten ++ P := by simp
theorem piece_ne (all b : List UInt8) : Fra.pieceL all (Fra.encL b) ≠ [] := fun e => by
  have h1 := (Fra.layP_ge (Fra.encL b) (Fra.atN all)).1
  have h3 := Fra.encL_len b
  have h2 : (Fra.aheadL all).length + (Fra.layP (Fra.atN all) (Fra.encL b)).length = 0 := by
    have := congrArg List.length e
    unfold Fra.pieceL at this
    rwa [List.length_append] at this
  omega
theorem sync_calm (fi : List UInt8) (lo : List (List UInt8)) (n : Nat) (h : n ≤ 524288) : FileS.sync ⟨fi, lo, -1, -1, false⟩ n = (⟨fi ++ lo.flatten, [], -1, -1, false⟩, 0) := by
  have hask : FileS.asked ⟨fi, lo, -1, -1, false⟩ n 0 = (⟨fi, lo, -1, -1, false⟩, 0) := by
    have h' : ¬ 524288 < n + 0 := by omega
    unfold FileS.asked
    rw [if_neg (show ¬ (false = true) by decide), if_neg h', if_neg (show ¬ ((-1 : Int) = 0) by decide)]
    rfl
  unfold FileS.sync
  rw [hask, if_pos rfl]
  rfl
theorem FAt.drew {W : World} {g : Nat} {X : FileT} (h : FAt W g X) : FAt W.drew g X := h.later (below_drewN (Below.refl _ _) 1)
theorem HBox.drew {w : World} {h g : Nat} {a : Int} (hb : HBox w h g a) : HBox w.drew h g a := hb
theorem below_drew1 {B : Nat} {w w' : World} (h : Below B w w') : Below B w w'.drew := below_drewN h 1
/-- The results are stored where they lie. -/
theorem steps_done {w W6 : World} {Y : FileT} {n h g a : Nat} (hf : FAt W6 n Y) (hh : HBox W6 h g (a : Nat)) (ha : AwayF Y h) (hb : Below w.heap.size w W6) (hn : w.heap.size ≤ n) (hw : w.heap.size ≤ h) (hne : n ≠ h) : ∀ W, World.drew (((((((W6.setCell ⟨n, 0, none⟩ (.slice Y.F.A Y.F.n Y.F.c)).setCell ⟨n, 1, none⟩ (.slice Y.lA Y.ln Y.lc)).setCell ⟨n, 2, none⟩ (.int .i64 Y.fuse)).setCell ⟨n, 3, none⟩ (.int .i64 Y.fault)).setCell ⟨n, 4, none⟩ (.bool Y.off)).setCell ⟨h, 0, none⟩ (.int .u64 (g : Nat))).setCell ⟨h, 1, none⟩ (.int .i64 (a : Nat))) = W →
    FAt W n Y ∧ HBox W h g (a : Nat) ∧ Below w.heap.size w W := by
  rintro W rfl
  have hfa7 := FAt.set hf.v hf.l hf.a
  unfold set5F at hfa7
  have hfa8 := (hfa7.other2 hne ha (.int .u64 (g : Nat)) (.int .i64 (a : Nat))).drew
  have hh7 : HBox (set5F W6 n (.slice Y.F.A Y.F.n Y.F.c) (.slice Y.lA Y.ln Y.lc) (.int .i64 Y.fuse) (.int .i64 Y.fault) (.bool Y.off)) h g (a : Nat) := (set5_other () (fun e => hne e.symm)).trans hh
  unfold set5F at hh7
  have hh8 := set2_box hh7 g (a : Nat)
  have hb7 := fbelow_set5 (a := .slice Y.F.A Y.F.n Y.F.c) (b := .slice Y.lA Y.ln Y.lc) (c := .int .i64 Y.fuse) (d := .int .i64 Y.fault) (e := .bool Y.off) hb hn
  unfold set5F at hb7
  have hb8 := below_drew1 (below_set2 (x := .int .u64 (g : Nat)) (y := .int .i64 (a : Nat)) hb7 hw)
  exact ⟨hfa8, hh8.drew, hb8⟩
/-- What steps give. -/
def StepsP (w : World) (e : Ending) (w' : World) : Prop :=
  ∃ (Y : FileT) (l : List UInt8), e = .returned (.tuple #[Y.agg, .agg #[.int .u64 (fG (Hdr.lastH l) : Nat), .int .i64 (fA (Hdr.lastH l) : Nat)], .bool (Hdr.lastH l).isSome, .bool true]) ∧ Y.s = ⟨l, [], -1, -1, false⟩ ∧ l.length ≤ 249000 ∧ LieF w' w'.heap.size Y ∧ Below w.heap.size w w' ∧ (∀ g, g < w.heap.size → AwayF Y g)
set_option maxRecDepth 100000 in
set_option maxHeartbeats 8000000 in
theorem steps_any (A : Option Addr) (n c : Nat) (xs : List StepT) (w : World) (htab : Tab w) (hx : Shows w w.heap.size 3 A n (xs.flatMap StepT.cells)) (hok : ∀ x ∈ xs, x.Ok w w.heap.size) (hnc : n ≤ c) (hcm : c ≤ maxLen) :
    Calls Tryd.prog 25 #[.slice A n c] w (StepsP w) := by
  obtain ⟨m, hm⟩ : ∃ m, min n 30 = m := ⟨_, rfl⟩
  have hmn : min (n : Int) 30 = (m : Int) := by omega
  have hif1 : (if (n : Int) < 30 then (n : Int) else 30) = (m : Int) := by split <;> omega
  have hif2 : (if (30 : Int) < (n : Int) then 30 else (n : Int)) = (m : Int) := by split <;> omega
  have hif3 : (if (n : Int) ≤ 30 then (n : Int) else 30) = (m : Int) := by split <;> omega
  have hif4 : (if (30 : Int) ≤ (n : Int) then 30 else (n : Int)) = (m : Int) := by split <;> omega
  have hm30 : m ≤ 30 := by omega
  have hml : m ≤ n := by omega
  have hxl : xs.length = n := by have h := hx.1; rw [flatH_len StepT.cells 3 (fun _ => rfl)] at h; omega
  have HX := Lib.hid hx
  have HK := Lib.hid hok
  have HXL := Lib.hid hxl
  have HT := Lib.hid htab
  unfold maxLen at hcm
  clear hx hok hxl htab hm
  go_enter Tryd.func25, Tryd.ntmps25
  go_wp2_with fail
  refine (newF_any _).mono ?_
  rintro e W1 ⟨rfl, hb0⟩
  have hv0 : FVar ((w.alloc (.cells #[.slice none 0 0, .slice none 0 0, .int .i64 0, .int .i64 0, .bool false] 37)).alloc (.cells #[.int .u64 0, .int .i64 0] 24)) w.heap.size (.slice none 0 0) (.slice none 0 0) (.int .i64 0) (.int .i64 0) (.bool false) := (FVar.new w _ _ _ _ _ _).later (bel_alloc (Below.refl _ _) _)
  have hh0 : HBox ((w.alloc (.cells #[.slice none 0 0, .slice none 0 0, .int .i64 0, .int .i64 0, .bool false] 37)).alloc (.cells #[.int .u64 0, .int .i64 0] 24)) (w.heap.size + 1) 0 0 := by
    have h : HBox ((w.alloc (.cells #[.slice none 0 0, .slice none 0 0, .int .i64 0, .int .i64 0, .bool false] 37)).alloc (.cells #[.int .u64 0, .int .i64 0] 24)) (w.alloc (.cells #[.slice none 0 0, .slice none 0 0, .int .i64 0, .int .i64 0, .bool false] 37)).heap.size 0 0 := heap_alloc_new _ _
    rw [World.size_alloc] at h
    exact h
  have hb1 := bel_next (bel_alloc (bel_alloc (Below.refl w.heap.size w) (.cells #[.slice none 0 0, .slice none 0 0, .int .i64 0, .int .i64 0, .bool false] 37)) (.cells #[.int .u64 0, .int .i64 0] 24)) hb0
  have hv1 := hv0.later hb0
  have hh1 := hh0.later hb0
  have hf1 := FAt.set hv1 (newF_lies W1) (newF_away w.heap.size)
  have hh2 : HBox (set5F W1 w.heap.size (.slice none 0 0) (.slice none 0 0) (.int .i64 (-1)) (.int .i64 (-1)) (.bool false)) (w.heap.size + 1) 0 0 := by
    unfold set5F
    have ne : w.heap.size + 1 ≠ w.heap.size := by omega
    exact (Below.heap_setCell _ _ _ _ ne).trans ((Below.heap_setCell _ _ _ _ ne).trans ((Below.heap_setCell _ _ _ _ ne).trans ((Below.heap_setCell _ _ _ _ ne).trans ((Below.heap_setCell _ _ _ _ ne).trans hh1))))
  have hb2 : Below w.heap.size w (set5F W1 w.heap.size (.slice none 0 0) (.slice none 0 0) (.int .i64 (-1)) (.int .i64 (-1)) (.bool false)) := fbelow_set5 hb1 (Nat.le_refl _)
  obtain ⟨⟨j0, j1, j2, j3, j4⟩, k0, k1, k2, k3, k4⟩ := hv1
  have hf2 : FAt (set5F W1 w.heap.size (.slice none 0 0) (.slice none 0 0) (.int .i64 (-1)) (.int .i64 (-1)) (.bool false)) w.heap.size newF := hf1
  unfold set5F at hf2 hh2 hb2
  clear hb0 hb1 hv0 hh0 hh1 hf1
  go_upto_region 2 with fail
  generalize ((((W1.setCell ⟨w.heap.size, 0, none⟩ (.slice none 0 0)).setCell ⟨w.heap.size, 1, none⟩ (.slice none 0 0)).setCell ⟨w.heap.size, 2, none⟩ (.int .i64 (-1))).setCell ⟨w.heap.size, 3, none⟩ (.int .i64 (-1))).setCell ⟨w.heap.size, 4, none⟩ (.bool false) = W2 at *
  clear j0 j1 j2 j3 j4 k0 k1 k2 k3 k4
  have HF2 := Lib.hid hf2
  have HH2 := Lib.hid hh2
  have HB2 := Lib.hid hb2
  clear hf2 hh2 hb2
  go_wp2_with fail
  go_loopw [4, 17] (fun tv iv wr => ∃ (i : Nat) (lo : List (List UInt8)) (X : FileT) (L : Option (Nat × Nat × Nat)), i ≤ m ∧ iv = .int .i64 (i : Nat) ∧ tv = .bool L.isSome ∧ Hid (Hdr.lastH lo.flatten = L) ∧ Hid (FAt wr w.heap.size X) ∧ Hid (X.s = ⟨[], lo, -1, -1, false⟩) ∧ Hid (∀ l ∈ lo, l ≠ []) ∧ Hid (lo.flatten.length ≤ 8300 * i) ∧ Hid (HBox wr (w.heap.size + 1) (fG L) (fA L : Nat)) ∧ Hid (Below w.heap.size w wr) ∧ Hid (∀ g, g < w.heap.size + 2 → AwayF X g)) (fun _ iv _ => m - (intOf iv).toNat)
  case atStart => exact ⟨0, [], newF, none, Nat.zero_le _, rfl, rfl, Lib.hid rfl, HF2, Lib.hid rfl, Lib.hid (fun l h => (List.not_mem_nil h).elim), Lib.hid (Nat.zero_le _), HH2, HB2, Lib.hid (fun g _ => newF_away g)⟩
  case round =>
    obtain ⟨i, lo, X, L, hi, rfl, rfl, HLL, HF, HS, HNE, HLN, HH, HB, HAY⟩ := hrel
    clear HF2 HH2 HB2 hmn hif1 hif2 hif3 hif4
    by_cases hlt : i < m
    · have hlt' : ((i : Int) < (m : Int)) = True := eq_true (by omega)
      obtain ⟨b1, o1, rfl, hb1, hc1⟩ := HX.out.2 (by omega)
      obtain ⟨x, hxi⟩ : ∃ x, xs[i]? = some x := ⟨_, List.getElem?_eq_getElem (by rw [HXL.out]; omega)⟩
      have hb := HB.out
      have d0 : wr.cell? ⟨b1, o1 + i * 3, none⟩ = some (.slice x.p.A x.p.n x.p.c) := (hb.cell (by show b1 < _; omega)).trans (hc1 (i * 3) _ (by rw [← Nat.add_zero (i * 3), flatH_at StepT.cells 3 (fun _ => rfl) xs i _ hxi 0 (by omega)]; rfl))
      have d1 : wr.cell? ⟨b1, o1 + i * 3 + 1, none⟩ = some (.int .u64 (x.g : Int)) := (hb.cell (by show b1 < _; omega)).trans (by rw [Nat.add_assoc]; exact hc1 (i * 3 + 1) _ (by rw [flatH_at StepT.cells 3 (fun _ => rfl) xs i _ hxi 1 (by omega)]; rfl))
      have d2 : wr.cell? ⟨b1, o1 + i * 3 + 2, none⟩ = some (.int .i64 x.a) := (hb.cell (by show b1 < _; omega)).trans (by rw [Nat.add_assoc]; exact hc1 (i * 3 + 2) _ (by rw [flatH_at StepT.cells 3 (fun _ => rfl) xs i _ hxi 2 (by omega)]; rfl))
      have d1' : wr.cell? ⟨b1, o1 + (i * 3 + 1), none⟩ = some (.int .u64 (x.g : Int)) := by rw [← Nat.add_assoc]; exact d1
      have d2' : wr.cell? ⟨b1, o1 + (i * 3 + 2), none⟩ = some (.int .i64 x.a) := by rw [← Nat.add_assoc]; exact d2
      have hxk := HK.out x (List.mem_of_getElem? hxi)
      have him : i < n := by omega
      clear hc1 hb hxi
      go_upto_region 5 with fail
      have hba := bel_alloc (Below.refl wr.heap.size wr) (.cells #[.slice x.p.A x.p.n x.p.c, .int .u64 (x.g : Int), .int .i64 x.a] 84)
      have hs3 : SBox (wr.alloc (.cells #[.slice x.p.A x.p.n x.p.c, .int .u64 (x.g : Int), .int .i64 x.a] 84)) wr.heap.size x := heap_alloc_new wr _
      have hf3 := HF.out.later hba
      have hh3 := HH.out.later hba
      have hb3 := bel_next HB.out hba
      have hn3 : w.heap.size + 1 < wr.heap.size := HH.out.lt
      generalize wr.alloc (.cells #[.slice x.p.A x.p.n x.p.c, .int .u64 (x.g : Int), .int .i64 x.a] 84) = W3 at *
      generalize wr.heap.size = S0 at *
      clear d0 d1 d2 d1' d2' hba HF HH HB
      have hS0 : S0 < W3.heap.size := blk_lt hs3
      have z0 := hs3.c0
      by_cases hn0 : x.p.n = 0
      · have hn1 : ((0 : Int) < (x.p.n : Int)) = False := eq_false (by omega)
        have z1 := hs3.c1
        have z2 := hs3.c2
        have hch := checkH_any x.g x.a W3
        go_wp2_with fail
        refine hch.mono ?_
        rintro e W4 ⟨rfl, hb4⟩
        have hs4 := hs3.later hb4
        have hf4 := hf3.later hb4
        have hh4 := hh3.later hb4
        have hb5 := bel_next hb3 hb4
        clear hch z0 z1 z2 hs3 hf3 hh3 hb3 hb4
        have hfl : lo.flatten.length ≤ 249000 := by have := HLN.out; omega
        by_cases hok : okH x.g x.a = true
        · rw [errH_yes hok]
          obtain ⟨k1, k2, k3⟩ := okH_iff.1 hok
          obtain ⟨⟨pA, pn, pc, pl⟩, xg, xa⟩ := x
          obtain ⟨b, rfl⟩ : ∃ b : Nat, xa = (b : Int) := ⟨xa.toNat, by simp only at k2; omega⟩
          have hri : X.right = true := right_calm hf4.l HS.out HNE.out (by show ([] ++ lo.flatten).length ≤ _; rw [List.nil_append]; omega)
          have hpt := putHS X [] lo xg b W4 (HT.out.below hb5 HT.out.lt) hf4.l HS.out hri k1 hxk.g (by simp only at k3; omega) (by show ([] ++ lo.flatten).length + 127 ≤ _; rw [List.nil_append]; omega)
          have hk1 : 1 ≤ xg := k1
          have hkg : xg < 18446744073709551616 := hxk.g
          have hkb : b < 524288 := by simp only at k3; omega
          have HK1 := Lib.hid (And.intro hk1 (And.intro hkg hkb))
          have y1 := hs4.c1
          have y2 := hs4.c2
          simp only [FileT.agg, PcT.val] at hpt y1 y2 ⊢
          have hvl := hf4.v
          have j0 := hvl.1.1
          have j1 := hvl.1.2.1
          have j2 := hvl.1.2.2.1
          have j3 := hvl.1.2.2.2.1
          have j4 := hvl.1.2.2.2.2
          have k0 := hvl.2.1
          have k1 := hvl.2.2.1
          have k2 := hvl.2.2.2.1
          have k3 := hvl.2.2.2.2.1
          have k4 := hvl.2.2.2.2.2
          clear hvl hxk k1 k2 k3 hok hri hk1 hkg hkb hfl
          go_upto_region 10 with (go_at_call 16; refine hpt.mono ?_; rintro e W5 ⟨Y, rfl, hYs, hYL, hbY, hYa⟩; simp only [FileT.agg, PcT.val]; have hv5 := hf4.v.later hbY; obtain ⟨⟨m0, m1, m2, m3, m4⟩, l0, l1, l2, l3, l4⟩ := hv5)
          have hs5 := hs4.later hbY
          have hh5 := hh4.later hbY
          have hfa := FAt.set (hf4.v.later hbY) hYL (hYa w.heap.size (by show w.heap.size < W4.heap.size; have := hh4.lt; omega) hf4.a trivial)
          have HAY2 := Lib.hid (show ∀ g, g < w.heap.size + 2 → AwayF Y g from fun g hg => hYa g (by have := hh4.lt; omega) (HAY.out g hg) trivial)
          have hb6 := fbelow_set5 (a := .slice Y.F.A Y.F.n Y.F.c) (b := .slice Y.lA Y.ln Y.lc) (c := .int .i64 Y.fuse) (d := .int .i64 Y.fault) (e := .bool Y.off) (hb5.trans (hbY.mono hb5.size)) (Nat.le_refl w.heap.size)
          have hso : SBox (set5F W5 w.heap.size (.slice Y.F.A Y.F.n Y.F.c) (.slice Y.lA Y.ln Y.lc) (.int .i64 Y.fuse) (.int .i64 Y.fault) (.bool Y.off)) S0 ⟨⟨pA, pn, pc, pl⟩, xg, (b : Int)⟩ := (set5_other () (show S0 ≠ w.heap.size by omega)).trans hs5
          have hho : HBox (set5F W5 w.heap.size (.slice Y.F.A Y.F.n Y.F.c) (.slice Y.lA Y.ln Y.lc) (.int .i64 Y.fuse) (.int .i64 Y.fault) (.bool Y.off)) (w.heap.size + 1) (fG L) (fA L : Nat) := (set5_other () (by omega)).trans hh5
          unfold set5F at hfa hso hho
          clear hs4 hf4 hh4 hb5 hpt y1 y2 j0 j1 j2 j3 j4 k0 k1 k2 k3 k4 hs5 hh5 hYL hbY hYa m0 m1 m2 m3 m4 l0 l1 l2 l3 l4
          generalize ((((W5.setCell ⟨w.heap.size, 0, none⟩ (.slice Y.F.A Y.F.n Y.F.c)).setCell ⟨w.heap.size, 1, none⟩ (.slice Y.lA Y.ln Y.lc)).setCell ⟨w.heap.size, 2, none⟩ (.int .i64 Y.fuse)).setCell ⟨w.heap.size, 3, none⟩ (.int .i64 Y.fault)).setCell ⟨w.heap.size, 4, none⟩ (.bool Y.off) = W6 at *
          have z1 := hso.c1
          have z2 := hso.c2
          simp only at z1 z2
          have q0 := hho.c0
          have q1 := hho.c1
          have p0 := hho.soft 0
          have p1 := hho.soft 1
          have hhz := set2_box hho xg (b : Int)
          have hb7 := below_set2 (x := .int .u64 (xg : Int)) (y := .int .i64 (b : Int)) hb6 (show w.heap.size ≤ w.heap.size + 1 by omega)
          have hfz := hfa.other2 (show w.heap.size ≠ w.heap.size + 1 by omega) (HAY2.out _ (by omega)) (.int .u64 (xg : Int)) (.int .i64 (b : Int))
          have HLL2 := Lib.hid (show Hdr.lastH (lo ++ [Hdr.headL ([] ++ lo.flatten).length xg b]).flatten = some (xg, b, lo.flatten.length + Hdr.gapN lo.flatten.length) by
            rw [flat_snoc, List.nil_append]
            exact Hdr.last_put lo.flatten xg b HK1.out.1 HK1.out.2.1 HK1.out.2.2)
          have HNE2 := Lib.hid (show ∀ l ∈ lo ++ [Hdr.headL ([] ++ lo.flatten).length xg b], l ≠ [] by
            intro l hl
            rcases List.mem_append.1 hl with h | h
            · exact HNE.out l h
            · rw [List.mem_singleton.1 h]; exact head_ne _ _ _)
          have HLN2 := Lib.hid (show (lo ++ [Hdr.headL ([] ++ lo.flatten).length xg b]).flatten.length ≤ 8300 * (i + 1) by
            rw [flat_snoc, List.length_append, Hdr.head_len]
            have h1 := HLN.out
            have h2 : Hdr.gapN ([] ++ lo.flatten).length < 64 := by unfold Hdr.gapN; omega
            omega)
          have HS2 := Lib.hid hYs
          have HF5 := Lib.hid hfz
          have HH5 := Lib.hid (show HBox _ (w.heap.size + 1) (fG (some (xg, b, lo.flatten.length + Hdr.gapN lo.flatten.length))) (fA (some (xg, b, lo.flatten.length + Hdr.gapN lo.flatten.length)) : Nat) from hhz)
          have HB5 := Lib.hid hb7
          clear hhz hb7 hfz hfa hso hho hb6 hYs HLL HNE HLN HS
          go_wp2
          go_roundw
          case rel => exact ⟨i + 1, _, Y, some (xg, b, lo.flatten.length + Hdr.gapN lo.flatten.length), by omega, by go_num, rfl, HLL2, HF5, HS2, HNE2, HLN2, HH5, HB5, HAY2⟩
          case measure => simp [intOf]; omega
        · have hok' : okH x.g x.a = false := by simpa using hok
          rw [errH_no hok']
          have HF5 := Lib.hid hf4
          have HH5 := Lib.hid hh4
          have HB5 := Lib.hid hb5
          have HLN2 := Lib.hid (show lo.flatten.length ≤ 8300 * (i + 1) by have h1 := HLN.out; omega)
          clear hf4 hh4 hb5 hs4 hok hok' HLN hfl
          go_wp2
          go_roundw
          case rel => exact ⟨i + 1, lo, X, L, by omega, by go_num, rfl, HLL, HF5, HS, HNE, HLN2, HH5, HB5, HAY⟩
          case measure => simp [intOf]; omega
      · have hn1 : ((0 : Int) < (x.p.n : Int)) = True := eq_true (by omega)
        obtain ⟨q, hq⟩ : ∃ q, min x.p.n 300 = q := ⟨_, rfl⟩
        have hq1 : 1 ≤ q ∧ q ≤ 300 ∧ q ≤ x.p.n := by omega
        have hmq : min (x.p.n : Int) 300 = (q : Int) := by omega
        have hiq1 : (if (x.p.n : Int) < 300 then (x.p.n : Int) else 300) = (q : Int) := by split <;> omega
        have hiq2 : (if (300 : Int) < (x.p.n : Int) then 300 else (x.p.n : Int)) = (q : Int) := by split <;> omega
        have hiq3 : (if (x.p.n : Int) ≤ 300 then (x.p.n : Int) else 300) = (q : Int) := by split <;> omega
        have hiq4 : (if (300 : Int) ≤ (x.p.n : Int) then 300 else (x.p.n : Int)) = (q : Int) := by split <;> omega
        have hpo3 := (hxk.p.later hb3).more hb3.size
        have hpq : PcT.Ok W3.drew W3.drew.heap.size ⟨x.p.A, q, x.p.c, x.p.l.take q⟩ := ⟨(hpo3.here.first hq1.2.2).drew, hpo3.nil, Nat.le_trans hq1.2.2 hpo3.fits, hpo3.most⟩
        have hqc : q ≤ x.p.c := Nat.le_trans hq1.2.2 hpo3.fits
        have hql : (x.p.l.take q).length = q := by rw [List.length_take, hpo3.len]; omega
        have hlen := Fra.piece_len lo.flatten (Fra.encL (x.p.l.take q)) (by rw [Fra.encL_len, hql]; omega)
        have hfl : FAt W3.drew w.heap.size X := hf3.later (below_drewN (Below.refl _ _) 1)
        have hri : X.right = true := right_calm hf3.l HS.out HNE.out (by have := HLN.out; show ([] ++ lo.flatten).length ≤ _; rw [List.nil_append]; omega)
        have HPT := Lib.hid (putS X ⟨x.p.A, q, x.p.c, x.p.l.take q⟩ [] lo W3.drew ((HT.out.below hb3 HT.out.lt).drew) hfl.l hpq HS.out hri (by show 1 ≤ q ∧ q ≤ 4096; omega) (by have h := HLN.out; have h2 := hlen; show ([] ++ lo.flatten).length + (Fra.pieceL ([] ++ lo.flatten) (Fra.encL (x.p.l.take q))).length ≤ 524288; rw [List.nil_append]; omega))
        simp only [FileT.agg, PcT.val] at HPT
        have HV3 := Lib.hid hfl.v
        have HXA := Lib.hid hf3.a
        have HH3 := Lib.hid hh3
        have HB3 := Lib.hid hb3
        have HLEN := Lib.hid hlen
        have x0 : ∀ W, OthB w.heap.size W3 W → W.cell? ⟨S0, 0, none⟩ = some (.slice x.p.A x.p.n x.p.c) := fun W h => (h.cell hS0 (by omega)).trans z0
        clear hfl hpq hpo3 hlen hql hri hh3 hb3 hf3 hq hxk
        go_upto_region 7 with fail
        clear z0
        refine wp_region_held_drew (S := fun W => OthB w.heap.size W3 W) (by kernel_rfl) (OthB.drewN _ _ 1) (fun hHeld => ?_)
        refine rg_in 1 rfl (by kernel_rfl) (by kernel_rfl) (by kernel_rfl) (by rfl) (v := ?_) (fun _ _ _ h => h) hHeld (fun w hSw => ?_) ?_
        rotate_left
        · (try dsimp only at hSw); go_simp <;> (with_reducible rfl)
        (try simp only [Act.put, List.setIfInBounds_toArray, List.set_cons_zero, List.set_cons_succ])
        refine rg_in 2 rfl (by kernel_rfl) (by kernel_rfl) (by kernel_rfl) (by rfl) (v := ?_) (fun _ _ _ h => h) hHeld (fun w hSw => ?_) ?_
        rotate_left
        · (try dsimp only at hSw); go_simp <;> (with_reducible rfl)
        (try simp only [Act.put, List.setIfInBounds_toArray, List.set_cons_zero, List.set_cons_succ])
        refine rg_in 3 rfl (by kernel_rfl) (by kernel_rfl) (by kernel_rfl) (by rfl) (v := ?_) (fun _ _ _ h => h) hHeld (fun w hSw => ?_) ?_
        rotate_left
        · (try dsimp only at hSw); go_simp <;> (with_reducible rfl)
        (try simp only [Act.put, List.setIfInBounds_toArray, List.set_cons_zero, List.set_cons_succ])
        refine rg_in 4 rfl (by kernel_rfl) (by kernel_rfl) (by kernel_rfl) (by rfl) (v := ?_) (fun _ _ _ h => h) hHeld (fun w hSw => ?_) ?_
        rotate_left
        · (try dsimp only at hSw); go_simp <;> (with_reducible rfl)
        (try simp only [Act.put, List.setIfInBounds_toArray, List.set_cons_zero, List.set_cons_succ])
        refine rg_in 5 rfl (by kernel_rfl) (by kernel_rfl) (by kernel_rfl) (by rfl) (v := ?_) (fun _ _ _ h => h) hHeld (fun w hSw => ?_) ?_
        rotate_left
        · (try dsimp only at hSw); go_simp <;> (with_reducible rfl)
        (try simp only [Act.put, List.setIfInBounds_toArray, List.set_cons_zero, List.set_cons_succ])
        refine rg_in 6 rfl (by kernel_rfl) (by kernel_rfl) (by kernel_rfl) (by rfl) (v := ?_) (fun _ _ _ h => h) hHeld (fun w hSw => ?_) ?_
        rotate_left
        · (try dsimp only at hSw); go_simp <;> (with_reducible rfl)
        (try simp only [Act.put, List.setIfInBounds_toArray, List.set_cons_zero, List.set_cons_succ])
        refine rg_in 7 rfl (by kernel_rfl) (by kernel_rfl) (by kernel_rfl) (by rfl) (v := ?_) (fun _ _ _ h => h) hHeld (fun w hSw => ?_) ?_
        rotate_left
        · (try dsimp only at hSw); go_simp <;> (with_reducible rfl)
        (try simp only [Act.put, List.setIfInBounds_toArray, List.set_cons_zero, List.set_cons_succ])
        refine rg_do 0 rfl (by kernel_rfl) (by rfl) (fun K hK => ?_)
        have hvl := HV3.out
        have j0 := hvl.1.1
        have j1 := hvl.1.2.1
        have j2 := hvl.1.2.2.1
        have j3 := hvl.1.2.2.2.1
        have j4 := hvl.1.2.2.2.2
        have k0 := hvl.2.1
        have k1 := hvl.2.2.1
        have k2 := hvl.2.2.2.1
        have k3 := hvl.2.2.2.2.1
        have k4 := hvl.2.2.2.2.2
        go_simp
        clear hvl j0 j1 j2 j3 j4 k0 k1 k2 k3 k4
        refine hK.out _ _ hHeld (fun hHeld => ?_)
        clear hK K
        (try simp only [Act.put, List.setIfInBounds_toArray, List.set_cons_zero, List.set_cons_succ])
        refine rg_do 8 rfl (by kernel_rfl) (by rfl) (fun K hK => ?_)
        have hpt := HPT.out
        go_simp
        (go_at_call 29; (with_reducible refine hpt.mono ?_); (rintro e w108 ⟨Y, rfl, hYs, hYL, hbY, hYa⟩))
        simp only [FileT.agg, PcT.val]
        clear hpt
        refine hK.out _ _ (hHeld.next hbY) (fun hHeld => ?_)
        clear hK K
        (try simp only [Act.put, List.setIfInBounds_toArray, List.set_cons_zero, List.set_cons_succ])
        refine rg_in 9 rfl (by kernel_rfl) (by kernel_rfl) (by kernel_rfl) (by rfl) (v := ?_) (fun _ _ _ h => h) hHeld (fun w hSw => ?_) ?_
        rotate_left
        · (try dsimp only at hSw); go_simp <;> (with_reducible rfl)
        (try simp only [Act.put, List.setIfInBounds_toArray, List.set_cons_zero, List.set_cons_succ])
        refine rg_in 10 rfl (by kernel_rfl) (by kernel_rfl) (by kernel_rfl) (by rfl) (v := ?_) (fun _ _ _ h => h) hHeld (fun w hSw => ?_) ?_
        rotate_left
        · (try dsimp only at hSw); go_simp <;> (with_reducible rfl)
        (try simp only [Act.put, List.setIfInBounds_toArray, List.set_cons_zero, List.set_cons_succ])
        refine rg_in 11 rfl (by kernel_rfl) (by kernel_rfl) (by kernel_rfl) (by rfl) (v := ?_) (fun _ _ _ h => h) hHeld (fun w hSw => ?_) ?_
        rotate_left
        · (try dsimp only at hSw); go_simp <;> (with_reducible rfl)
        (try simp only [Act.put, List.setIfInBounds_toArray, List.set_cons_zero, List.set_cons_succ])
        refine rg_in 12 rfl (by kernel_rfl) (by kernel_rfl) (by kernel_rfl) (by rfl) (v := ?_) (fun _ _ _ h => h) hHeld (fun w hSw => ?_) ?_
        rotate_left
        · (try dsimp only at hSw); go_simp <;> (with_reducible rfl)
        (try simp only [Act.put, List.setIfInBounds_toArray, List.set_cons_zero, List.set_cons_succ])
        refine rg_do 13 rfl (by kernel_rfl) (by rfl) (fun K hK => ?_)
        have hvl := HV3.out.later hbY
        have j0 := hvl.1.1
        have j1 := hvl.1.2.1
        have j2 := hvl.1.2.2.1
        have j3 := hvl.1.2.2.2.1
        have j4 := hvl.1.2.2.2.2
        have k0 := hvl.2.1
        have k1 := hvl.2.2.1
        have k2 := hvl.2.2.2.1
        have k3 := hvl.2.2.2.2.1
        have k4 := hvl.2.2.2.2.2
        go_simp
        clear hvl j0 j1 j2 j3 j4 k0 k1 k2 k3 k4
        refine hK.out _ _ (((((hHeld.set 0 _).set 1 _).set 2 _).set 3 _).set 4 _) (fun hHeld => ?_)
        clear hK K
        (try simp only [Act.put, List.setIfInBounds_toArray, List.set_cons_zero, List.set_cons_succ])
        refine rg_in 14 rfl (by kernel_rfl) (by kernel_rfl) (by kernel_rfl) (by rfl) (v := ?_) (fun _ _ _ h => h) hHeld (fun w hSw => ?_) ?_
        rotate_left
        · (try dsimp only at hSw); go_simp <;> (with_reducible rfl)
        (try simp only [Act.put, List.setIfInBounds_toArray, List.set_cons_zero, List.set_cons_succ])
        refine wpAnyH_done (by kernel_rfl) ?_ _
        skip
        have hfa := FAt.set (HV3.out.later hbY) hYL (hYa w.heap.size (by show w.heap.size < W3.heap.size; omega) HXA.out)
        have HAY2 := Lib.hid (show ∀ g, g < w.heap.size + 2 → AwayF Y g from fun g hg => hYa g (by show g < W3.heap.size; omega) (HAY.out g hg))
        have hh5 := (hHeld.o (w.heap.size + 1) (by omega) (by omega)).trans HH3.out
        have hb5 := fbelow_set5 (a := .slice Y.F.A Y.F.n Y.F.c) (b := .slice Y.lA Y.ln Y.lc) (c := .int .i64 Y.fuse) (d := .int .i64 Y.fault) (e := .bool Y.off) (HB3.out.trans ((below_undrew hbY).mono HB3.out.size)) (Nat.le_refl w.heap.size)
        unfold set5F at hfa
        have HF5 := Lib.hid hfa
        have HH5 := Lib.hid (show HBox _ _ _ _ from hh5)
        have HB5 := Lib.hid hb5
        clear hfa hh5 hb5 hHeld HV3 HXA HH3 HB3 HPT hYL hYa hbY x0
        generalize ((((w108.setCell ⟨w.heap.size, 0, none⟩ (.slice Y.F.A Y.F.n Y.F.c)).setCell ⟨w.heap.size, 1, none⟩ (.slice Y.lA Y.ln Y.lc)).setCell ⟨w.heap.size, 2, none⟩ (.int .i64 Y.fuse)).setCell ⟨w.heap.size, 3, none⟩ (.int .i64 Y.fault)).setCell ⟨w.heap.size, 4, none⟩ (.bool Y.off) = W5 at *
        have HLL2 := Lib.hid (show Hdr.lastH (lo ++ [Fra.pieceL ([] ++ lo.flatten) (Fra.encL (x.p.l.take q))]).flatten = L by
          rw [flat_snoc, List.nil_append, Hdr.last_piece]
          exact HLL.out)
        have HNE2 := Lib.hid (show ∀ l ∈ lo ++ [Fra.pieceL ([] ++ lo.flatten) (Fra.encL (x.p.l.take q))], l ≠ [] by
          intro l hl
          rcases List.mem_append.1 hl with h | h
          · exact HNE.out l h
          · rw [List.mem_singleton.1 h]; exact piece_ne _ _)
        have HLN2 := Lib.hid (show (lo ++ [Fra.pieceL ([] ++ lo.flatten) (Fra.encL (x.p.l.take q))]).flatten.length ≤ 8300 * (i + 1) by
          rw [flat_snoc, List.length_append, List.nil_append]
          have h1 := HLN.out
          have h2 := HLEN.out
          omega)
        have HS2 := Lib.hid hYs
        clear hYs HLL HNE HLN HLEN HS
        go_wp2
        go_roundw
        case rel => exact ⟨i + 1, _, Y, L, by omega, by go_num, rfl, HLL2, HF5, HS2, HNE2, HLN2, HH5, HB5, HAY2⟩
        case measure => simp [intOf]; omega
    · have hlt' : ((i : Int) < (m : Int)) = False := eq_false (by omega)
      have hi2 : i = m := by omega
      subst hi2
      have hfl : lo.flatten.length ≤ 249000 := by have := HLN.out; omega
      have hf4 := HF.out
      have hri : X.right = true := right_calm hf4.l HS.out HNE.out (by show ([] ++ lo.flatten).length ≤ _; rw [List.nil_append]; omega)
      have hsy := syncF_any X wr.heap.size wr hf4.l (Nat.le_refl _) hri
      rw [HS.out, sync_calm [] lo X.long (right_rows hf4.l hri).2.1, List.nil_append] at hsy
      simp only [FileT.agg, PcT.val] at hsy
      have hvl := hf4.v
      have j0 := hvl.1.1
      have j1 := hvl.1.2.1
      have j2 := hvl.1.2.2.1
      have j3 := hvl.1.2.2.2.1
      have j4 := hvl.1.2.2.2.2
      have k0 := hvl.2.1
      have k1 := hvl.2.2.1
      have k2 := hvl.2.2.2.1
      have k3 := hvl.2.2.2.2.1
      have k4 := hvl.2.2.2.2.2
      have HHW := Lib.hid HH.out
      have hnw : w.heap.size + 1 < wr.heap.size := HH.out.lt
      clear hvl hri HS HNE HLN hlt' hlt hm30 hml HK HX HH
      go_upto_region 15 with (go_at_call 44; refine hsy.mono ?_; rintro e W5 ⟨Y, rfl, hYs, hYL, hbY, hYa⟩; simp only [FileT.agg, PcT.val]; have hv5 := hf4.v.later hbY; obtain ⟨⟨m0, m1, m2, m3, m4⟩, l0, l1, l2, l3, l4⟩ := hv5)
      have hfa := FAt.set (hf4.v.later hbY) hYL (hYa w.heap.size (by omega) hf4.a trivial)
      have hho : HBox (set5F W5 w.heap.size (.slice Y.F.A Y.F.n Y.F.c) (.slice Y.lA Y.ln Y.lc) (.int .i64 Y.fuse) (.int .i64 Y.fault) (.bool Y.off)) (w.heap.size + 1) (fG L) (fA L : Nat) := (set5_other () (by omega)).trans (HHW.out.later hbY)
      have hb6 := fbelow_set5 (a := .slice Y.F.A Y.F.n Y.F.c) (b := .slice Y.lA Y.ln Y.lc) (c := .int .i64 Y.fuse) (d := .int .i64 Y.fault) (e := .bool Y.off) (HB.out.trans (hbY.mono HB.out.size)) (Nat.le_refl w.heap.size)
      have HAY2 := Lib.hid (show ∀ g, g < w.heap.size + 2 → AwayF Y g from fun g hg => hYa g (by omega) (HAY.out g hg) trivial)
      unfold set5F at hfa hho
      clear j0 j1 j2 j3 j4 k0 k1 k2 k3 k4 hYL hbY hYa m0 m1 m2 m3 m4 l0 l1 l2 l3 l4 hsy hf4
      generalize ((((W5.setCell ⟨w.heap.size, 0, none⟩ (.slice Y.F.A Y.F.n Y.F.c)).setCell ⟨w.heap.size, 1, none⟩ (.slice Y.lA Y.ln Y.lc)).setCell ⟨w.heap.size, 2, none⟩ (.int .i64 Y.fuse)).setCell ⟨w.heap.size, 3, none⟩ (.int .i64 Y.fault)).setCell ⟨w.heap.size, 4, none⟩ (.bool Y.off) = W6 at *
      have hvl := hfa.v
      have j0 := hvl.1.1
      have j1 := hvl.1.2.1
      have j2 := hvl.1.2.2.1
      have j3 := hvl.1.2.2.2.1
      have j4 := hvl.1.2.2.2.2
      have k0 := hvl.2.1
      have k1 := hvl.2.2.1
      have k2 := hvl.2.2.2.1
      have k3 := hvl.2.2.2.2.1
      have k4 := hvl.2.2.2.2.2
      have q0 := hho.c0
      have q1 := hho.c1
      have p0 := hho.soft 0
      have p1 := hho.soft 1
      have HFA := Lib.hid hfa
      have HHO := Lib.hid hho
      have HB6 := Lib.hid hb6
      clear hvl hfa hho hb6
      go_region
      have hd := steps_done HFA.out HHO.out (HAY2.out _ (by omega)) HB6.out (Nat.le_refl _) (show w.heap.size ≤ w.heap.size + 1 by omega) (show w.heap.size ≠ w.heap.size + 1 by omega)
      have HD := Lib.hid hd
      clear hd j0 j1 j2 j3 j4 k0 k1 k2 k3 k4 q0 q1 p0 p1
      obtain ⟨W8, hW8⟩ : ∃ W, World.drew (((((((W6.setCell ⟨w.heap.size, 0, none⟩ (.slice Y.F.A Y.F.n Y.F.c)).setCell ⟨w.heap.size, 1, none⟩ (.slice Y.lA Y.ln Y.lc)).setCell ⟨w.heap.size, 2, none⟩ (.int .i64 Y.fuse)).setCell ⟨w.heap.size, 3, none⟩ (.int .i64 Y.fault)).setCell ⟨w.heap.size, 4, none⟩ (.bool Y.off)).setCell ⟨w.heap.size + 1, 0, none⟩ (.int .u64 (fG L : Nat))).setCell ⟨w.heap.size + 1, 1, none⟩ (.int .i64 (fA L : Nat))) = W := ⟨_, rfl⟩
      have hd8 := HD.out W8 hW8
      rw [hW8]
      clear hW8 HD
      obtain ⟨hfa8, hh9, hb8⟩ := hd8
      obtain ⟨⟨j0, j1, j2, j3, j4⟩, -⟩ := hfa8.v
      have q0 := hh9.c0
      have q1 := hh9.c1
      have HLF := Lib.hid hfa8.l
      have HB8 := Lib.hid hb8
      clear hfa8 hh9 hb8
      go_wp2
      have hLL := HLL.out
      subst hLL
      refine bodyPost_ret (v := .tuple #[.agg #[.slice Y.F.A Y.F.n Y.F.c, .slice Y.lA Y.ln Y.lc, .int .i64 Y.fuse, .int .i64 Y.fault, .bool Y.off], .agg #[.int .u64 (fG (Hdr.lastH lo.flatten) : Nat), .int .i64 (fA (Hdr.lastH lo.flatten) : Nat)], .bool (Hdr.lastH lo.flatten).isSome, .bool true]) ?_ rfl ⟨Y, lo.flatten, rfl, hYs, hfl, HLF.out, HB8.out, fun g hg => HAY2.out g (by omega)⟩
      simp [results, Tryd.results25, go_sem, *]
end Go.Proofs.YtlknmpnjhbdlhaaDoor
