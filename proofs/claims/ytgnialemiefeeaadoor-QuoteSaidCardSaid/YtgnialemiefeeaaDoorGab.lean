import Derived.Test.YtgnialemiefeeaaDoorGaa
import Derived.Test.YtgnialemiefeeaaDoorRows
import Derived.Deep.RegionHeld3
import Derived.Deep.DrawnRows
import Derived.Deep.MidRow
import Derived.Deep.QuietTactic
import Derived.BigQuiet
import Derived.Lib.Hide
import Derived.Outline
import Derived.WalkLawsBesides
import Derived.Deep.DeepCutAuto
import Derived.Laws.BitsAllLaws
import Derived.Laws.BitsLemmas
import Derived.IntWalk
import Derived.Laws.BytesString
import Derived.Laws.Cells
/-
  Cells of new blocks in later worlds; the steps of 'nothing below has turned'. No program in sight.
-/
namespace Go.Proofs.YtgnialemiefeeaaDoor
open Go.RowKit
theorem new_later {w w1 : World} {C : Array Value} {t : TypeId} (hb : Below (w.alloc (.cells C t)).heap.size (w.alloc (.cells C t)) w1) (k : Nat) {v : Value} (hk : C[k]? = some v) : w1.cell? ⟨w.heap.size, k, none⟩ = some v :=
  (hb.cell (p := ⟨w.heap.size, k, none⟩) (by simp)).trans ((World.cell?_alloc_new w C t k).trans hk)
theorem kept_later {w w1 : World} (hb : Below w.heap.size w w1) {p : Addr} {v : Value} (h : w.cell? p = some v) : w1.cell? p = some v :=
  (hb.cell (p := p) (World.block_lt_of_cell? w _ h)).trans h
theorem froz_later {w w1 : World} (hb : Below w.heap.size w w1) {p : Addr} {v : Value} (h : w.cell? p = some v) {b : Bool} (hf : w.frozen? p = b) : w1.frozen? p = b :=
  (hb.frozen (World.block_lt_of_cell? w _ h)).trans hf
theorem S_call {W0 w1 w2 : World} {B : Nat} (hb : Below B w1 w2) (h : Below W0.heap.size W0 w1) (hB : B = w1.heap.size) : Below W0.heap.size W0 w2 := h.trans (hb.mono (by rw [hB]; exact h.size))
theorem S_alloc {W0 w1 : World} {o : Obj} (h : Below W0.heap.size W0 w1) : Below W0.heap.size W0 (w1.alloc o) := h.alloc h.size _
theorem bel_next {a b c : World} (h : Below a.heap.size a b) (k : Below b.heap.size b c) : Below a.heap.size a c := h.trans (k.mono h.size)
theorem bel_alloc {a b : World} (h : Below a.heap.size a b) (o : Obj) : Below a.heap.size a (b.alloc o) := h.alloc h.size o

/-- Block b holds these cells, and they may be written. -/
def Box (W : World) (b : Nat) (C : List Value) : Prop := ∀ k v, C[k]? = some v → W.cell? ⟨b, k, none⟩ = some v ∧ W.frozen? ⟨b, k, none⟩ = false
theorem Box.new (w : World) (C : Array Value) (t : TypeId) : Box (w.alloc (.cells C t)) w.heap.size C.toList := fun k v h => by
  refine ⟨(World.cell?_alloc_new w C t k).trans (by simpa using h), ?_⟩
  go_simp
theorem Box.new' (w : World) (C : Array Value) (t : TypeId) {b : Nat} (hb : b = w.heap.size) : Box (w.alloc (.cells C t)) b C.toList := by subst hb; exact Box.new w C t
theorem Box.later {W W' : World} {b : Nat} {C : List Value} (h : Box W b C) (hb : Below W.heap.size W W') : Box W' b C := fun k v hk =>
  ⟨kept_later hb (h k v hk).1, froz_later hb (h k v hk).1 (h k v hk).2⟩
theorem Box.alloc {W : World} {b : Nat} {C : List Value} (h : Box W b C) (o : Obj) : Box (W.alloc o) b C := h.later ((Below.refl _ _).alloc (Nat.le_refl _) o)
theorem Box.drewN {W : World} {b : Nat} {C : List Value} (h : Box W b C) (n : Nat) : Box (W.drewN n) b C := h
theorem Box.lt {W : World} {b : Nat} {C : List Value} (h : Box W b C) (hC : 0 < C.length) : b < W.heap.size :=
  World.block_lt_of_cell? W _ (h 0 (C[0]) (List.getElem?_eq_getElem hC)).1
/-- A store into another block. -/
theorem Box.setCell {W : World} {b : Nat} {C : List Value} (h : Box W b C) {p : Addr} (hp : p.block ≠ b) (u : Value) : Box (W.setCell p u) b C := fun k v hk =>
  ⟨(World.cell?_setCell_other W p ⟨b, k, none⟩ u (fun e => hp (by rw [e]))).trans (h k v hk).1, by rw [World.frozen?_setCell]; exact (h k v hk).2⟩
/-- Four stores, cell by cell. -/
def set4 (W : World) (b : Nat) (x0 x1 x2 x3 : Value) : World := (((W.setCell ⟨b, 0, none⟩ x0).setCell ⟨b, 1, none⟩ x1).setCell ⟨b, 2, none⟩ x2).setCell ⟨b, 3, none⟩ x3
theorem Box.set4 {W : World} {b : Nat} {y0 y1 y2 y3 : Value} (h : Box W b [y0, y1, y2, y3]) (x0 x1 x2 x3 : Value) : Box (set4 W b x0 x1 x2 x3) b [x0, x1, x2, x3] := by
  have h0 := h 0 _ rfl
  have h1 := h 1 _ rfl
  have h2 := h 2 _ rfl
  have h3 := h 3 _ rfl
  have ne : ∀ i j : Nat, i ≠ j → (⟨b, i, none⟩ : Addr) ≠ ⟨b, j, none⟩ := fun i j e h => e (by injection h)
  intro k v hk
  unfold Proofs.YtgnialemiefeeaaDoor.set4
  simp only [World.frozen?_setCell]
  match k, hk with
  | 0, hk =>
    cases hk
    refine ⟨?_, h0.2⟩
    rw [World.cell?_setCell_other _ _ _ _ (ne _ _ (by omega)), World.cell?_setCell_other _ _ _ _ (ne _ _ (by omega)), World.cell?_setCell_other _ _ _ _ (ne _ _ (by omega))]
    exact cell_set h0.1 _
  | 1, hk =>
    cases hk
    refine ⟨?_, h1.2⟩
    rw [World.cell?_setCell_other _ _ _ _ (ne _ _ (by omega)), World.cell?_setCell_other _ _ _ _ (ne _ _ (by omega))]
    exact cell_set ((World.cell?_setCell_other _ _ _ _ (ne _ _ (by omega))).trans h1.1) _
  | 2, hk =>
    cases hk
    refine ⟨?_, h2.2⟩
    rw [World.cell?_setCell_other _ _ _ _ (ne _ _ (by omega))]
    exact cell_set ((World.cell?_setCell_other _ _ _ _ (ne _ _ (by omega))).trans ((World.cell?_setCell_other _ _ _ _ (ne _ _ (by omega))).trans h2.1)) _
  | 3, hk =>
    cases hk
    refine ⟨?_, h3.2⟩
    exact cell_set ((World.cell?_setCell_other _ _ _ _ (ne _ _ (by omega))).trans ((World.cell?_setCell_other _ _ _ _ (ne _ _ (by omega))).trans ((World.cell?_setCell_other _ _ _ _ (ne _ _ (by omega))).trans h3.1))) _
theorem Box.far4 {W : World} {b g : Nat} {C : List Value} (h : Box W b C) (x0 x1 x2 x3 : Value) (hg : g ≠ b) : Box (Proofs.YtgnialemiefeeaaDoor.set4 W g x0 x1 x2 x3) b C :=
  (((h.setCell (p := ⟨g, 0, none⟩) hg x0).setCell (p := ⟨g, 1, none⟩) hg x1).setCell (p := ⟨g, 2, none⟩) hg x2).setCell (p := ⟨g, 3, none⟩) hg x3
theorem below_set4 {a W : World} {B b : Nat} (h : Below B a W) (hb : B ≤ b) (x0 x1 x2 x3 : Value) : Below B a (set4 W b x0 x1 x2 x3) :=
  (((h.setCell (p := ⟨b, 0, none⟩) hb x0).setCell (p := ⟨b, 1, none⟩) hb x1).setCell (p := ⟨b, 2, none⟩) hb x2).setCell (p := ⟨b, 3, none⟩) hb x3
end Go.Proofs.YtgnialemiefeeaaDoor
/-
  Layer 1: the table of forms; holds, room, starts, find.
-/
namespace Go.Proofs.YtgnialemiefeeaaDoor
open Go.RowKit

def utab : List Value := [.int .i64 0, .int .i64 127, .int .i64 1, .int .i64 0, .int .i64 128, .int .i64 2047, .int .i64 2, .int .i64 192, .int .i64 2048, .int .i64 65535, .int .i64 3, .int .i64 224, .int .i64 65536, .int .i64 1114111, .int .i64 4, .int .i64 240]
/-- The forms as the program lays them. -/
def UTab (w : World) : Prop := w.rangeAt 1 0 utab
theorem UTab.lt {w : World} (h : UTab w) : 1 < w.heap.size := World.block_lt_of_cell? w _ (h 0 _ rfl)
theorem UTab.below {w w' : World} {B : Nat} (h : UTab w) (hb : Below B w w') (hB : 1 < B) : UTab w' := fun i v hi => (hb.cell (p := ⟨1, 0 + i, none⟩) hB).trans (h i v hi)
theorem UTab.drew {w : World} (h : UTab w) : UTab w.drew := h
theorem UTab.drewN {w : World} (h : UTab w) (k : Nat) : UTab (w.drewN k) := h
theorem UTab.alloc {w : World} (h : UTab w) (o : Obj) : UTab (w.alloc o) := h.below ((Below.refl _ _).alloc (Nat.le_refl _) o) h.lt
theorem UTab.setCell {w : World} (h : UTab w) {p : Addr} (hp : 1 < p.block) (v : Value) : UTab (w.setCell p v) := h.below ((Below.refl _ _).setCell (Nat.le_refl p.block) v) hp

/-- A form, as a value. -/
def formV (l h s d : Int) : Value := .agg #[.int .i64 l, .int .i64 h, .int .i64 s, .int .i64 d]
/-- A form holds a number. -/
def holdsB (l h n : Int) : Bool := decide (l ≤ n) && (decide (n ≤ h) && (decide (n < 55296) || decide (57343 < n)))

set_option maxRecDepth 20000 in
set_option maxHeartbeats 1000000 in
theorem holds_yes (l h s d n : Int) (w : World) (hh : holdsB l h n = true) :
    Calls Tryd.prog 48 #[.agg #[.int .i64 l, .int .i64 h, .int .i64 s, .int .i64 d], .int .i64 n] w fun e w' => e = .returned (.bool true) ∧ Below w.heap.size w w' := by
  unfold holdsB at hh
  simp only [Bool.and_eq_true, Bool.or_eq_true, decide_eq_true_eq] at hh
  obtain ⟨h1, h2, h3⟩ := hh
  go_enter Tryd.func48, Tryd.ntmps48
  rcases h3 with h3 | h3
  · go_wp2
    go_ret
    exact ⟨rfl, (Below.refl _ _).alloc (Nat.le_refl _) _⟩
  · have h4 : ¬ n < 55296 := by omega
    go_wp2
    go_ret
    exact ⟨rfl, (Below.refl _ _).alloc (Nat.le_refl _) _⟩
set_option maxRecDepth 20000 in
set_option maxHeartbeats 1000000 in
theorem holds_no (l h s d n : Int) (w : World) (hh : holdsB l h n = false) :
    Calls Tryd.prog 48 #[.agg #[.int .i64 l, .int .i64 h, .int .i64 s, .int .i64 d], .int .i64 n] w fun e w' => e = .returned (.bool false) ∧ Below w.heap.size w w' := by
  unfold holdsB at hh
  by_cases h1 : l ≤ n
  · by_cases h2 : n ≤ h
    · have h3 : ¬ n < 55296 ∧ ¬ 57343 < n := by
        simp [h1, h2] at hh
        omega
      obtain ⟨h3, h4⟩ := h3
      clear hh
      go_enter Tryd.func48, Tryd.ntmps48
      go_wp2
      go_ret
      exact ⟨rfl, (Below.refl _ _).alloc (Nat.le_refl _) _⟩
    · clear hh
      go_enter Tryd.func48, Tryd.ntmps48
      go_wp2
      go_ret
      exact ⟨rfl, (Below.refl _ _).alloc (Nat.le_refl _) _⟩
  · clear hh
    go_enter Tryd.func48, Tryd.ntmps48
    go_wp2
    go_ret
    exact ⟨rfl, (Below.refl _ _).alloc (Nat.le_refl _) _⟩

/-- The number of first bytes of the form of a size. -/
def roomOf (s : Int) : Int := if s = 1 then 128 else if s = 2 then 32 else if s = 3 then 16 else 8
set_option maxRecDepth 20000 in
theorem room_any (l h s d : Int) (w : World) (hs : s = 1 ∨ s = 2 ∨ s = 3 ∨ s = 4) :
    Calls Tryd.prog 77 #[.agg #[.int .i64 l, .int .i64 h, .int .i64 s, .int .i64 d]] w fun e w' => e = .returned (.int .i64 (roomOf s)) ∧ Below w.heap.size w w' := by
  rcases hs with rfl | rfl | rfl | rfl
  all_goals
    go_enter Tryd.func77, Tryd.ntmps77
    go_wp2
    go_ret
    exact ⟨rfl, (Below.refl _ _).alloc (Nat.le_refl _) _⟩

def startsB (s d n : Int) : Bool := decide (d ≤ n) && decide (n < d + roomOf s)
theorem room_bd (s : Int) : 8 ≤ roomOf s ∧ roomOf s ≤ 128 := by unfold roomOf; repeat' split <;> omega
set_option maxRecDepth 20000 in
set_option maxHeartbeats 1000000 in
theorem starts_any (l h s d n : Int) (w : World) (hs : s = 1 ∨ s = 2 ∨ s = 3 ∨ s = 4) (hd0 : 0 ≤ d) (hd : d ≤ 300) (hn : n ≤ 300) (hn0 : 0 ≤ n) :
    Calls Tryd.prog 69 #[.agg #[.int .i64 l, .int .i64 h, .int .i64 s, .int .i64 d], .int .i64 n] w fun e w' => e = .returned (.bool (startsB s d n)) ∧ Below w.heap.size w w' := by
  have hr := room_bd s
  have Hr := Lib.hid (show startsB s d n = (decide (d ≤ n) && decide (n < d + roomOf s)) from rfl)
  obtain ⟨W1, hW1⟩ : ∃ W1, w.alloc (.cells #[.int .i64 l, .int .i64 h, .int .i64 s, .int .i64 d] 76) = W1 := ⟨_, rfl⟩
  have hb1 : Below w.heap.size w W1 := by rw [← hW1]; exact (Below.refl _ _).alloc (Nat.le_refl _) _
  have c0 : ∀ W, Below W1.heap.size W1 W → W.cell? ⟨w.heap.size, 0, none⟩ = some (.int .i64 l) := fun W h => new_later (by rw [hW1]; exact h) 0 rfl
  have c1 : ∀ W, Below W1.heap.size W1 W → W.cell? ⟨w.heap.size, 1, none⟩ = some (.int .i64 h) := fun W h => new_later (by rw [hW1]; exact h) 1 rfl
  have c2 : ∀ W, Below W1.heap.size W1 W → W.cell? ⟨w.heap.size, 2, none⟩ = some (.int .i64 s) := fun W h => new_later (by rw [hW1]; exact h) 2 rfl
  have c3 : ∀ W, Below W1.heap.size W1 W → W.cell? ⟨w.heap.size, 3, none⟩ = some (.int .i64 d) := fun W h => new_later (by rw [hW1]; exact h) 3 rfl
  have d3 := c3 W1 (Below.refl _ _)
  by_cases hg : d ≤ n
  · have hg2 : decide (d ≤ n) = true := decide_eq_true hg
    have hw : IntKind.i64.wrap (d + roomOf s) = d + roomOf s := IntWalk.i64_in _ (by omega)
    generalize hR : roomOf s = r at *
    go_enter Tryd.func69, Tryd.ntmps69
    go_wp2
    go_region_held3 (fun w' => Below W1.heap.size W1 w') (first | assumption | exact (Below.refl _ _).drew | (refine S_call ?_ ?_ ?_; assumption; assumption; rfl)) (first
      | (go_at_call 77; with_reducible refine (room_any l h s d _ hs).mono ?_; rintro e wA ⟨rfl, hbA⟩; rw [hR]; have hSA := S_call hbA (by assumption) rfl))
    all_goals
      go_wp2
      go_ret
      exact ⟨by rw [Hr.out, hg2]; rfl, hb1.trans (Below.mono (B := W1.heap.size) (by assumption) hb1.size)⟩
  · have hg2 : decide (d ≤ n) = false := decide_eq_false hg
    go_enter Tryd.func69, Tryd.ntmps69
    go_wp2
    go_quiet (fail)
    go_wp2
    go_ret
    exact ⟨by rw [Hr.out, hg2]; rfl, below_drewN hb1 _⟩
end Go.Proofs.YtgnialemiefeeaaDoor
/-
  Layer 1: the forms by index; the least that fits.
-/
namespace Go.Proofs.YtgnialemiefeeaaDoor
open Go.RowKit

def fl : Nat → Int | 0 => 0 | 1 => 128 | 2 => 2048 | 3 => 65536 | _ => 0
def fh : Nat → Int | 0 => 127 | 1 => 2047 | 2 => 65535 | 3 => 1114111 | _ => 0
def fs : Nat → Int | 0 => 1 | 1 => 2 | 2 => 3 | 3 => 4 | _ => 0
def fd : Nat → Int | 0 => 0 | 1 => 192 | 2 => 224 | 3 => 240 | _ => 0
/-- The form of an index; from 4 on: none. -/
def formK (k : Nat) : Value := .agg #[.int .i64 (fl k), .int .i64 (fh k), .int .i64 (fs k), .int .i64 (fd k)]
def firstK (P : Nat → Bool) : Nat := if P 0 then 0 else if P 1 then 1 else if P 2 then 2 else if P 3 then 3 else 4

set_option maxRecDepth 20000 in
theorem index_form (k : Nat) (hk : k < 4) : ∀ w, (Instr.index 91 (.agg utab.toArray) (.int .i64 (k : Int))).run Tryd.prog w = .ok (.agg #[.int .i64 (fl k), .int .i64 (fh k), .int .i64 (fs k), .int .i64 (fd k)]) w := by
  rcases (show k = 0 ∨ k = 1 ∨ k = 2 ∨ k = 3 by omega) with rfl | rfl | rfl | rfl
  · exact fun _ => by kernel_rfl
  · exact fun _ => by kernel_rfl
  · exact fun _ => by kernel_rfl
  · exact fun _ => by kernel_rfl
set_option maxRecDepth 20000 in
theorem info_tab : (Tryd.prog.info? 91).map (·.size) = some utab.length := by kernel_rfl
theorem first_yes (P : Nat → Bool) (k : Nat) (hk : k < 4) (h : ∀ j, j < k → P j = false) (hq : P k = true) : firstK P = k := by
  unfold firstK
  rcases (show k = 0 ∨ k = 1 ∨ k = 2 ∨ k = 3 by omega) with rfl | rfl | rfl | rfl
  · rw [hq, if_pos rfl]
  · rw [h 0 (by omega), if_neg (by simp), hq, if_pos rfl]
  · rw [h 0 (by omega), if_neg (by simp), h 1 (by omega), if_neg (by simp), hq, if_pos rfl]
  · rw [h 0 (by omega), if_neg (by simp), h 1 (by omega), if_neg (by simp), h 2 (by omega), if_neg (by simp), hq, if_pos rfl]
theorem first_no (P : Nat → Bool) (h : ∀ j, j < 4 → P j = false) : firstK P = 4 := by
  unfold firstK
  rw [h 0 (by omega), if_neg (by simp), h 1 (by omega), if_neg (by simp), h 2 (by omega), if_neg (by simp), h 3 (by omega), if_neg (by simp)]
end Go.Proofs.YtgnialemiefeeaaDoor
/-
  Layer 1: find, by starts.
-/
namespace Go.Proofs.YtgnialemiefeeaaDoor
open Go.RowKit

set_option maxRecDepth 20000 in
set_option maxHeartbeats 600000 in
theorem find_starts (P : Nat → Bool) (n : Int) (w : World) (htab : UTab w)
    (hfit : ∀ k, k < 4 → ∀ W : World, Calls Tryd.prog 69 #[.agg #[.int .i64 (fl k), .int .i64 (fh k), .int .i64 (fs k), .int .i64 (fd k)], .int .i64 n] W fun e w' => e = .returned (.bool (P k)) ∧ Below W.heap.size W w') :
    Calls Tryd.prog 47 #[.func (.func 69) #[] #[], .int .i64 n] w fun e w' => e = .returned (formK (firstK P)) ∧ Below w.heap.size w w' := by
  obtain ⟨W2, hW2⟩ : ∃ W2, (w.alloc (.cells #[.int .i64 0, .int .i64 0, .int .i64 0, .int .i64 0] 76)).alloc (.cells #[.int .i64 0, .int .i64 0, .int .i64 0, .int .i64 0] 76) = W2 := ⟨_, rfl⟩
  have htab2 : UTab W2 := by rw [← hW2]; exact (htab.alloc _).alloc _
  have hb2 : Below w.heap.size w W2 := by rw [← hW2]; exact bel_alloc (bel_alloc (Below.refl _ _) _) _
  have hs2 : w.heap.size + 2 ≤ W2.heap.size := by rw [← hW2]; simp
  have bx0 : Box W2 (w.heap.size) [.int .i64 0, .int .i64 0, .int .i64 0, .int .i64 0] := by rw [← hW2]; exact (Box.new w _ _).alloc _
  have bx1 : Box W2 (w.heap.size + 1) [.int .i64 0, .int .i64 0, .int .i64 0, .int .i64 0] := by rw [← hW2]; exact Box.new' _ _ _ (by simp)
  go_enter Tryd.func47, Tryd.ntmps47
  go_wp2
  go_step3
  go_wp2
  go_step3
  clear hW2
  go_wp2_with (refine wpList_load_mid rfl 91 _ rfl 1 0 rfl utab _ htab2 Tryd.underlying91 rfl info_tab ?_)
  go_loopw [9] (fun i wr => ∃ k : Nat, k ≤ 4 ∧ i = .int .i64 k ∧ (∀ j, j < k → P j = false) ∧ Below W2.heap.size W2 wr) (fun i _ => 4 - (intOf i).toNat)
  case atStart => exact ⟨0, by omega, rfl, fun j hj => by omega, Below.refl _ _⟩
  case round =>
    obtain ⟨k, hk, rfl, hP, hbw⟩ := hrel
    have hsw := hbw.size
    by_cases hlt : k < 4
    · have hk4 : (k : Int) < 4 := by omega
      have hk0 : (0 : Int) ≤ k := by omega
      have hidx := index_form k hlt
      have hf := hfit k hlt
      have hres := Lib.hid (show formK k = .agg #[.int .i64 (fl k), .int .i64 (fh k), .int .i64 (fs k), .int .i64 (fd k)] from rfl)
      generalize fl k = x0 at *
      generalize fh k = x1 at *
      generalize fs k = x2 at *
      generalize fd k = x3 at *
      cases hq : P k
      · rw [hq] at hf
        have hF := Lib.hid (show ∀ j, j < k + 1 → P j = false from fun j hj => if e : j = k then e ▸ hq else hP j (by omega))
        clear hP hq hfit hlt
        go_wp2_with fail
        refine (hf _).mono ?_
        rintro e w1 ⟨rfl, hb⟩
        have c0 := Box.later (Box.new wr #[.int .i64 x0, .int .i64 x1, .int .i64 x2, .int .i64 x3] 76) hb
        have hbn := bel_next (bel_alloc hbw _) hb
        clear c0 bx0 bx1 hf
        go_wp2
        go_roundw
        case rel => exact ⟨k + 1, by omega, by go_num, hF.out, hbn⟩
        case measure => simp [intOf]; omega
      · rw [hq] at hf
        have hF := Lib.hid (show firstK P = k from first_yes P k hlt hP hq)
        clear hP hq hfit hlt
        go_wp2_with fail
        refine (hf _).mono ?_
        rintro e w1 ⟨rfl, hb⟩
        have c0 := Box.later (Box.new wr #[.int .i64 x0, .int .i64 x1, .int .i64 x2, .int .i64 x3] 76) hb
        have d0 := (c0 0 _ rfl).1
        have d1 := (c0 1 _ rfl).1
        have d2 := (c0 2 _ rfl).1
        have d3 := (c0 3 _ rfl).1
        have hbn := bel_next (bel_alloc hbw _) hb
        have b2 := bx1.later hbn
        have b3 := bx0.later hbn
        obtain ⟨W3, hW3⟩ : ∃ W3, set4 w1 (w.heap.size + 1) (.int .i64 x0) (.int .i64 x1) (.int .i64 x2) (.int .i64 x3) = W3 := ⟨_, rfl⟩
        have k3 : Box W3 (w.heap.size + 1) [.int .i64 x0, .int .i64 x1, .int .i64 x2, .int .i64 x3] := by rw [← hW3]; exact b2.set4 _ _ _ _
        have k2 : Box W3 w.heap.size [.int .i64 0, .int .i64 0, .int .i64 0, .int .i64 0] := by rw [← hW3]; exact b3.far4 _ _ _ _ (by omega)
        have hb3 : Below w.heap.size w W3 := by rw [← hW3]; exact below_set4 (hb2.trans (hbn.mono (by omega))) (by omega) _ _ _ _
        have hW3' : (((w1.setCell ⟨w.heap.size + 1, 0, none⟩ (.int .i64 x0)).setCell ⟨w.heap.size + 1, 1, none⟩ (.int .i64 x1)).setCell ⟨w.heap.size + 1, 2, none⟩ (.int .i64 x2)).setCell ⟨w.heap.size + 1, 3, none⟩ (.int .i64 x3) = W3 := hW3
        have p0 := (b2 0 _ rfl).1
        have q0 := (b2 0 _ rfl).2
        have p1 := (b2 1 _ rfl).1
        have q1 := (b2 1 _ rfl).2
        have p2 := (b2 2 _ rfl).1
        have q2 := (b2 2 _ rfl).2
        have p3 := (b2 3 _ rfl).1
        have q3 := (b2 3 _ rfl).2
        clear hW3 b2 b3 c0 bx0 bx1 hf
        go_upto_region 8 with (fail)
        clear hW3' p0 p1 p2 p3 q0 q1 q2 q3 d0 d1 d2 d3
        obtain ⟨W4, hW4⟩ : ∃ W4, set4 W3 w.heap.size (.int .i64 x0) (.int .i64 x1) (.int .i64 x2) (.int .i64 x3) = W4 := ⟨_, rfl⟩
        have k4 : Box W4 w.heap.size [.int .i64 x0, .int .i64 x1, .int .i64 x2, .int .i64 x3] := by rw [← hW4]; exact k2.set4 _ _ _ _
        have hb4 : Below w.heap.size w W4 := by rw [← hW4]; exact below_set4 hb3 (Nat.le_refl _) _ _ _ _
        have hW4' : (((W3.setCell ⟨w.heap.size, 0, none⟩ (.int .i64 x0)).setCell ⟨w.heap.size, 1, none⟩ (.int .i64 x1)).setCell ⟨w.heap.size, 2, none⟩ (.int .i64 x2)).setCell ⟨w.heap.size, 3, none⟩ (.int .i64 x3) = W4 := hW4
        have p0 := (k3 0 _ rfl).1
        have q0 := (k3 0 _ rfl).2
        have r0 := (k2 0 _ rfl).1
        have s0 := (k2 0 _ rfl).2
        have t0 := (k4 0 _ rfl).1
        have p1 := (k3 1 _ rfl).1
        have q1 := (k3 1 _ rfl).2
        have r1 := (k2 1 _ rfl).1
        have s1 := (k2 1 _ rfl).2
        have t1 := (k4 1 _ rfl).1
        have p2 := (k3 2 _ rfl).1
        have q2 := (k3 2 _ rfl).2
        have r2 := (k2 2 _ rfl).1
        have s2 := (k2 2 _ rfl).2
        have t2 := (k4 2 _ rfl).1
        have p3 := (k3 3 _ rfl).1
        have q3 := (k3 3 _ rfl).2
        have r3 := (k2 3 _ rfl).1
        have s3 := (k2 3 _ rfl).2
        have t3 := (k4 3 _ rfl).1
        clear hW4 k3 k2 k4
        go_wp2
        rw [Exit.noGoto_ret]
        exact bodyPost_ret (v := .agg #[.int .i64 x0, .int .i64 x1, .int .i64 x2, .int .i64 x3]) (by simp [results, Tryd.results47, go_sem, *]) rfl ⟨by rw [hF.out, hres.out], hb4⟩
    · have hF := Lib.hid (first_no P (fun j hj => hP j (by omega)))
      have hk4 : k = 4 := by omega
      subst hk4
      clear hP hfit hlt
      have b0 := bx0.later hbw
      have b1 := bx1.later hbw
      have hb3 : Below w.heap.size w wr := hb2.trans (hbw.mono (by omega))
      clear bx0 bx1
      obtain ⟨W4, hW4⟩ : ∃ W4, set4 wr w.heap.size (.int .i64 0) (.int .i64 0) (.int .i64 0) (.int .i64 0) = W4 := ⟨_, rfl⟩
      have k4 : Box W4 w.heap.size [.int .i64 0, .int .i64 0, .int .i64 0, .int .i64 0] := by rw [← hW4]; exact b0.set4 _ _ _ _
      have hb4 : Below w.heap.size w W4 := by rw [← hW4]; exact below_set4 hb3 (Nat.le_refl _) _ _ _ _
      have hW4' : (((wr.setCell ⟨w.heap.size, 0, none⟩ (.int .i64 0)).setCell ⟨w.heap.size, 1, none⟩ (.int .i64 0)).setCell ⟨w.heap.size, 2, none⟩ (.int .i64 0)).setCell ⟨w.heap.size, 3, none⟩ (.int .i64 0) = W4 := hW4
      have p0 := (b1 0 _ rfl).1
      have q0 := (b1 0 _ rfl).2
      have r0 := (b0 0 _ rfl).1
      have s0 := (b0 0 _ rfl).2
      have t0 := (k4 0 _ rfl).1
      have p1 := (b1 1 _ rfl).1
      have q1 := (b1 1 _ rfl).2
      have r1 := (b0 1 _ rfl).1
      have s1 := (b0 1 _ rfl).2
      have t1 := (k4 1 _ rfl).1
      have p2 := (b1 2 _ rfl).1
      have q2 := (b1 2 _ rfl).2
      have r2 := (b0 2 _ rfl).1
      have s2 := (b0 2 _ rfl).2
      have t2 := (k4 2 _ rfl).1
      have p3 := (b1 3 _ rfl).1
      have q3 := (b1 3 _ rfl).2
      have r3 := (b0 3 _ rfl).1
      have s3 := (b0 3 _ rfl).2
      have t3 := (k4 3 _ rfl).1
      clear hW4 b1 b0 k4
      go_wp2
      rw [Exit.noGoto_ret]
      exact bodyPost_ret (v := .agg #[.int .i64 0, .int .i64 0, .int .i64 0, .int .i64 0]) (by simp [results, Tryd.results47, go_sem, *]) rfl ⟨by rw [hF.out]; rfl, hb4⟩
end Go.Proofs.YtgnialemiefeeaaDoor
/-
  Layer 1, plain: bits of the bytes, in the walk's spelling.
-/
namespace Go.Proofs.YtgnialemiefeeaaDoor
open Go.RowKit

theorem ofInt_i64 (a : Nat) (ha : a < 9223372036854775808) : (BitVec.ofInt 64 (a : Int)).toNat = a := by
  rw [BitVec.ofInt_natCast, BitVec.toNat_ofNat]; exact Nat.mod_eq_of_lt (by omega)
theorem i64_and_nat (a b : Nat) (ha : a < 9223372036854775808) (hb : b < 9223372036854775808) : bits .and .i64 (a : Int) (b : Int) = ((a &&& b : Nat) : Int) := by
  have hx : a &&& b < 2 ^ 63 := Nat.and_lt_two_pow _ (by omega)
  show IntKind.i64.wrap ((BitVec.ofInt 64 (a : Int) &&& BitVec.ofInt 64 (b : Int)).toNat : Int) = _
  rw [BitVec.toNat_and, ofInt_i64 a ha, ofInt_i64 b hb, IntKind.wrap_i64]
  omega
theorem i64_or_nat (a b : Nat) (ha : a < 9223372036854775808) (hb : b < 9223372036854775808) : bits .or .i64 (a : Int) (b : Int) = ((a ||| b : Nat) : Int) := by
  have hx : a ||| b < 2 ^ 63 := Nat.or_lt_two_pow (by omega) (by omega)
  show IntKind.i64.wrap ((BitVec.ofInt 64 (a : Int) ||| BitVec.ofInt 64 (b : Int)).toNat : Int) = _
  rw [BitVec.toNat_or, ofInt_i64 a ha, ofInt_i64 b hb, IntKind.wrap_i64]
  omega
theorem or_sum (i a b : Nat) (h : b < 2 ^ i) : (2 ^ i * a) ||| b = 2 ^ i * a + b := (Nat.two_pow_add_eq_or_of_lt h a).symm
theorem wrap8 (n : Nat) (h : n < 256) : IntKind.u8.wrap (n : Int) = (n : Int) := by
  have : IntKind.u8.wrap (n : Int) = (n : Int) % 256 := by simp [IntKind.wrap, IntKind.bits, IntKind.signed]
  rw [this]; omega
theorem or_i (i a x : Nat) (h : x < 2 ^ i) (hi : 2 ^ i * a + x < 256) (ha : 2 ^ i * a < 256) : IntKind.u8.wrap (bits .or .i64 ((2 ^ i * a : Nat) : Int) (x : Int)) = ((b8 (2 ^ i * a + x)).toNat : Int) := by
  rw [i64_or_nat _ _ (by omega) (by omega), or_sum _ _ _ h, wrap8 _ hi, b8_toNat _ hi]
theorem yb_first1 (c : Nat) (h : c ≤ 127) : IntKind.u8.wrap (bits .or .i64 0 (c : Int)) = ((b8 c).toNat : Int) := by
  have := or_i 7 0 c (by omega) (by omega) (by omega)
  simpa using this
theorem yb_first2 (c : Nat) (h : c ≤ 2047) : IntKind.u8.wrap (bits .or .i64 192 ((c : Int) / 64)) = ((b8 (192 + c / 64)).toNat : Int) :=
  or_i 5 6 (c / 64) (by omega) (by omega) (by omega)
theorem yb_first3 (c : Nat) (h : c ≤ 65535) : IntKind.u8.wrap (bits .or .i64 224 ((c : Int) / 4096)) = ((b8 (224 + c / 4096)).toNat : Int) :=
  or_i 4 14 (c / 4096) (by omega) (by omega) (by omega)
theorem yb_first4 (c : Nat) (h : c ≤ 1114111) : IntKind.u8.wrap (bits .or .i64 240 ((c : Int) / 262144)) = ((b8 (240 + c / 262144)).toNat : Int) :=
  or_i 3 30 (c / 262144) (by omega) (by omega) (by omega)
theorem and63 (x : Nat) (h : x < 9223372036854775808) : bits .and .i64 (x : Int) 63 = ((x % 64 : Nat) : Int) := by
  have := i64_and_nat x 63 h (by omega)
  rw [show ((63 : Nat) : Int) = 63 from rfl] at this
  rw [this, show (63 : Nat) = 2 ^ 6 - 1 from rfl, Nat.and_two_pow_sub_one_eq_mod]
theorem yb_next (x : Nat) (h : x ≤ 1114111) : IntKind.u8.wrap (bits .or .i64 128 (bits .and .i64 (x : Int) 63)) = ((b8 (128 + x % 64)).toNat : Int) := by
  rw [and63 x (by omega)]
  exact or_i 6 2 (x % 64) (by omega) (by omega) (by omega)
end Go.Proofs.YtgnialemiefeeaaDoor
/-
  Layer 1, plain: reading by the forms.
-/
namespace Go.Proofs.YtgnialemiefeeaaDoor
open Go.RowKit

/-- The index of the form that a first byte begins. -/
def sIdx (n : Int) : Nat := firstK fun k => startsB (fs k) (fd k) n
theorem sIdx_cases (n : Nat) (h : n < 256) : (n < 128 ∧ sIdx n = 0) ∨ (128 ≤ n ∧ n < 192 ∧ sIdx n = 4) ∨ (192 ≤ n ∧ n < 224 ∧ sIdx n = 1) ∨ (224 ≤ n ∧ n < 240 ∧ sIdx n = 2) ∨ (240 ≤ n ∧ n < 248 ∧ sIdx n = 3) ∨ (248 ≤ n ∧ sIdx n = 4) := by
  unfold sIdx
  have s0 : startsB (fs 0) (fd 0) n = decide (n < 128) := by rw [Bool.eq_iff_iff]; simp [startsB, fs, fd, roomOf]; omega
  have s1 : startsB (fs 1) (fd 1) n = decide (192 ≤ n ∧ n < 224) := by rw [Bool.eq_iff_iff]; simp [startsB, fs, fd, roomOf]; omega
  have s2 : startsB (fs 2) (fd 2) n = decide (224 ≤ n ∧ n < 240) := by rw [Bool.eq_iff_iff]; simp [startsB, fs, fd, roomOf]; omega
  have s3 : startsB (fs 3) (fd 3) n = decide (240 ≤ n ∧ n < 248) := by rw [Bool.eq_iff_iff]; simp [startsB, fs, fd, roomOf]; omega
  unfold firstK
  simp only [s0, s1, s2, s3, decide_eq_true_eq]
  by_cases h0 : n < 128
  · exact .inl ⟨h0, by rw [if_pos h0]⟩
  by_cases h1 : n < 192
  · exact .inr (.inl ⟨by omega, h1, by rw [if_neg (by omega), if_neg (by omega), if_neg (by omega), if_neg (by omega)]⟩)
  by_cases h2 : n < 224
  · exact .inr (.inr (.inl ⟨by omega, h2, by rw [if_neg (by omega), if_pos (by omega)]⟩))
  by_cases h3 : n < 240
  · exact .inr (.inr (.inr (.inl ⟨by omega, h3, by rw [if_neg (by omega), if_neg (by omega), if_pos (by omega)]⟩)))
  by_cases h4 : n < 248
  · exact .inr (.inr (.inr (.inr (.inl ⟨by omega, h4, by rw [if_neg (by omega), if_neg (by omega), if_neg (by omega), if_pos (by omega)]⟩))))
  · exact .inr (.inr (.inr (.inr (.inr ⟨by omega, by rw [if_neg (by omega), if_neg (by omega), if_neg (by omega), if_neg (by omega)]⟩))))
theorem holds_iff (l h n : Int) : holdsB l h n = true ↔ l ≤ n ∧ n ≤ h ∧ (n < 55296 ∨ 57343 < n) := by unfold holdsB; simp
def fdN : Nat → Nat | 0 => 0 | 1 => 192 | 2 => 224 | 3 => 240 | _ => 0
theorem fdN_fd (k : Nat) : fd k = (fdN k : Int) := by
  match k with
  | 0 => rfl
  | 1 => rfl
  | 2 => rfl
  | 3 => rfl
  | _ + 4 => rfl
theorem fs_of (k : Nat) (h : k < 4) : fs k = ((k + 1 : Nat) : Int) := by
  rcases (show k = 0 ∨ k = 1 ∨ k = 2 ∨ k = 3 by omega) with rfl | rfl | rfl | rfl <;> rfl
/-- The number that j bytes give, the first less its lead. -/
def part (l : List UInt8) (d : Nat) : Nat → Nat
  | 0 => 0
  | 1 => (l.getD 0 0).toNat - d
  | j + 2 => part l d (j + 1) * 64 + ((l.getD (j + 1) 0).toNat - 128)
theorem part_succ (l : List UInt8) (d j : Nat) (h : 1 ≤ j) : part l d (j + 1) = part l d j * 64 + ((l.getD j 0).toNat - 128) := by
  match j, h with
  | j + 1, _ => rfl
theorem part_lt (l : List UInt8) (d : Nat) (hc : ∀ q, (l.getD q 0).toNat < 256) (h0 : (l.getD 0 0).toNat - d < 128) (j : Nat) (hj : j ≤ 4) : part l d j < 100000000 := by
  have p0 : part l d 0 = 0 := rfl
  have p1 : part l d 1 = (l.getD 0 0).toNat - d := rfl
  have p2 := part_succ l d 1 (by omega)
  have p3 := part_succ l d 2 (by omega)
  have p4 := part_succ l d 3 (by omega)
  have q1 := hc 1
  have q2 := hc 2
  have q3 := hc 3
  rcases (show j = 0 ∨ j = 1 ∨ j = 2 ∨ j = 3 ∨ j = 4 by omega) with rfl | rfl | rfl | rfl | rfl
  · omega
  · omega
  · simp only [Nat.reduceAdd] at p2; omega
  · simp only [Nat.reduceAdd] at p2 p3; omega
  · simp only [Nat.reduceAdd] at p2 p3 p4; omega

theorem dec_none (l : List UInt8) (h : sIdx ((l.getD 0 0).toNat : Int) = 4) : decL l = (0, 0) := by
  rcases l with _ | ⟨a, r⟩
  · rfl
  have hs := sIdx_cases a.toNat a.toNat_lt
  have h' : sIdx (a.toNat : Int) = 4 := h
  simp only [decL]
  rw [h'] at hs
  rcases hs with h | h | h | h | h | h
  · omega
  · rw [if_neg (by omega), if_pos (by omega)]
  · omega
  · omega
  · omega
  · rw [if_neg (by omega), if_neg (by omega), if_neg (by omega), if_neg (by omega), if_neg (by omega)]
theorem dec_short (l : List UInt8) (k : Nat) (hk : sIdx ((l.getD 0 0).toNat : Int) = k) (hl : 0 < l.length) (h4 : k < 4) (h : l.length < k + 1) : decL l = (0, 0) := by
  rcases l with _ | ⟨a, r⟩
  · rfl
  have hs := sIdx_cases a.toNat a.toNat_lt
  have h' : sIdx (a.toNat : Int) = k := hk
  simp only [decL]
  simp only [List.length_cons] at h
  rw [h'] at hs
  rcases hs with h | h | h | h | h | h
  · omega
  · omega
  · rw [if_neg (by omega), if_neg (by omega), if_pos (by omega)]
    rcases r with _ | ⟨b, r⟩
    · rfl
    · simp at *; omega
  · rw [if_neg (by omega), if_neg (by omega), if_neg (by omega), if_pos (by omega)]
    rcases r with _ | ⟨b, _ | ⟨c, r⟩⟩
    · rfl
    · rfl
    · simp at *; omega
  · rw [if_neg (by omega), if_neg (by omega), if_neg (by omega), if_neg (by omega), if_pos (by omega)]
    rcases r with _ | ⟨b, _ | ⟨c, _ | ⟨d, r⟩⟩⟩
    · rfl
    · rfl
    · rfl
    · simp at *; omega
  · omega
theorem okIf_false (c n : Nat) : okIf false c n = (0, 0) := rfl
theorem dec_bad (l : List UInt8) (k : Nat) (hk : sIdx ((l.getD 0 0).toNat : Int) = k) (h4 : k < 4) (hl : k + 1 ≤ l.length) (q : Nat) (hq1 : 1 ≤ q) (hq : q ≤ k) (hb : cont (l.getD q 0) = false) : decL l = (0, 0) := by
  rcases l with _ | ⟨a, r⟩
  · rfl
  have hs := sIdx_cases a.toNat a.toNat_lt
  have h' : sIdx (a.toNat : Int) = k := hk
  simp only [decL]
  simp only [List.length_cons] at hl
  rw [h'] at hs
  rcases hs with h | h | h | h | h | h
  · omega
  · omega
  · rw [if_neg (by omega), if_neg (by omega), if_pos (by omega)]
    obtain rfl : q = 1 := by omega
    rcases r with _ | ⟨b, r⟩
    · rfl
    · have hb' : cont b = false := hb
      simp only [hb', Bool.false_and, okIf_false]
  · rw [if_neg (by omega), if_neg (by omega), if_neg (by omega), if_pos (by omega)]
    rcases r with _ | ⟨b, _ | ⟨c, r⟩⟩
    · rfl
    · rfl
    · rcases (show q = 1 ∨ q = 2 by omega) with rfl | rfl
      · have hb' : cont b = false := hb
        simp only [hb', Bool.false_and, okIf_false]
      · have hb' : cont c = false := hb
        simp only [hb', Bool.false_and, Bool.and_false, okIf_false]
  · rw [if_neg (by omega), if_neg (by omega), if_neg (by omega), if_neg (by omega), if_pos (by omega)]
    rcases r with _ | ⟨b, _ | ⟨c, _ | ⟨d, r⟩⟩⟩
    · rfl
    · rfl
    · rfl
    · rcases (show q = 1 ∨ q = 2 ∨ q = 3 by omega) with rfl | rfl | rfl
      · have hb' : cont b = false := hb
        simp only [hb', Bool.false_and, okIf_false]
      · have hb' : cont c = false := hb
        simp only [hb', Bool.false_and, Bool.and_false, okIf_false]
      · have hb' : cont d = false := hb
        simp only [hb', Bool.false_and, Bool.and_false, okIf_false]
  · omega
theorem dec_all (l : List UInt8) (k : Nat) (hk : sIdx ((l.getD 0 0).toNat : Int) = k) (h4 : k < 4) (hl : k + 1 ≤ l.length) (hc : ∀ q, 1 ≤ q → q < k + 1 → cont (l.getD q 0) = true) :
    decL l = okIf (holdsB (fl k) (fh k) (part l (fdN k) (k + 1) : Nat)) (part l (fdN k) (k + 1)) (k + 1) := by
  rcases l with _ | ⟨a, r⟩
  · simp at hl
  have hs := sIdx_cases a.toNat a.toNat_lt
  have h' : sIdx (a.toNat : Int) = k := hk
  simp only [decL]
  simp only [List.length_cons] at hl
  rw [h'] at hs
  rcases hs with ⟨h, rfl⟩ | h | ⟨h, h2, rfl⟩ | ⟨h, h2, rfl⟩ | ⟨h, h2, rfl⟩ | h
  · rw [if_pos h]
    have e1 : part (a :: r) (fdN 0) (0 + 1) = a.toNat := rfl
    have e : holdsB (fl 0) (fh 0) (a.toNat : Int) = true := (holds_iff _ _ _).2 ⟨show (0 : Int) ≤ _ by omega, show _ ≤ (127 : Int) by omega, .inl (by omega)⟩
    rw [e1, e]
    rfl
  · omega
  · rw [if_neg (by omega), if_neg (by omega), if_pos (by omega)]
    rcases r with _ | ⟨b, r⟩
    · simp at hl
    · have c1 : cont b = true := hc 1 (by omega) (by omega)
      have c1' := (cont_iff _).1 c1
      have e : part (a :: b :: r) (fdN 1) (1 + 1) = (a.toNat - 192) * 64 + (b.toNat - 128) := rfl
      rw [e]
      dsimp only
      generalize hx : (a.toNat - 192) * 64 + (b.toNat - 128) = x
      have hb : (cont b && decide (128 ≤ x)) = holdsB (fl 1) (fh 1) (x : Int) := by
        rw [c1, Bool.eq_iff_iff, holds_iff, Bool.true_and, decide_eq_true_eq]
        show _ ↔ (128 : Int) ≤ x ∧ (x : Int) ≤ 2047 ∧ _
        omega
      rw [hb]
  · rw [if_neg (by omega), if_neg (by omega), if_neg (by omega), if_pos (by omega)]
    rcases r with _ | ⟨b, _ | ⟨c, r⟩⟩
    · simp at hl
    · simp at hl
    · have c1 : cont b = true := hc 1 (by omega) (by omega)
      have c2 : cont c = true := hc 2 (by omega) (by omega)
      have c1' := (cont_iff _).1 c1
      have c2' := (cont_iff _).1 c2
      have e : part (a :: b :: c :: r) (fdN 2) (2 + 1) = ((a.toNat - 224) * 64 + (b.toNat - 128)) * 64 + (c.toNat - 128) := rfl
      rw [e]
      dsimp only
      generalize hx : ((a.toNat - 224) * 64 + (b.toNat - 128)) * 64 + (c.toNat - 128) = x
      have hb : (cont b && cont c && decide (2048 ≤ x) && isCp x) = holdsB (fl 2) (fh 2) (x : Int) := by
        rw [c1, c2, Bool.eq_iff_iff, holds_iff]
        simp only [Bool.true_and, Bool.and_eq_true, isCp_iff, decide_eq_true_eq]
        show _ ↔ (2048 : Int) ≤ x ∧ (x : Int) ≤ 65535 ∧ _
        omega
      rw [hb]
  · rw [if_neg (by omega), if_neg (by omega), if_neg (by omega), if_neg (by omega), if_pos (by omega)]
    rcases r with _ | ⟨b, _ | ⟨c, _ | ⟨d, r⟩⟩⟩
    · simp at hl
    · simp at hl
    · simp at hl
    · have c1 : cont b = true := hc 1 (by omega) (by omega)
      have c2 : cont c = true := hc 2 (by omega) (by omega)
      have c3 : cont d = true := hc 3 (by omega) (by omega)
      have c1' := (cont_iff _).1 c1
      have c2' := (cont_iff _).1 c2
      have c3' := (cont_iff _).1 c3
      have e : part (a :: b :: c :: d :: r) (fdN 3) (3 + 1) = (((a.toNat - 240) * 64 + (b.toNat - 128)) * 64 + (c.toNat - 128)) * 64 + (d.toNat - 128) := rfl
      rw [e]
      dsimp only
      generalize hx : (((a.toNat - 240) * 64 + (b.toNat - 128)) * 64 + (c.toNat - 128)) * 64 + (d.toNat - 128) = x
      have hb : (cont b && cont c && cont d && decide (65536 ≤ x) && isCp x) = holdsB (fl 3) (fh 3) (x : Int) := by
        rw [c1, c2, c3, Bool.eq_iff_iff, holds_iff]
        simp only [Bool.true_and, Bool.and_eq_true, isCp_iff, decide_eq_true_eq]
        show _ ↔ (65536 : Int) ≤ x ∧ (x : Int) ≤ 1114111 ∧ _
        omega
      rw [hb]
  · omega
set_option maxRecDepth 20000 in
/-- Bits of a byte that goes on. -/
theorem and192 (x : UInt8) : (bits .and .i64 (x.toNat : Int) 192 != 128) = !cont x := by
  have h := i64_and_nat x.toNat 192 (by have := x.toNat_lt; omega) (by omega)
  rw [show ((192 : Nat) : Int) = 192 from rfl] at h
  rw [h]
  have key : ∀ n : Nat, n < 256 → ((n &&& 192 : Nat) != 128) = !(decide (128 ≤ n) && decide (n < 192)) := by decide +kernel
  have k2 := key x.toNat x.toNat_lt
  unfold cont
  rw [← k2]
  rw [Bool.eq_iff_iff]
  simp
  omega
theorem step6 (p x : Nat) (hp : p < 100000000) (h1 : 128 ≤ x) (h2 : x < 192) : bits .or .i64 ((p : Int) * 64) (bits .and .i64 (x : Int) 63) = ((p * 64 + (x - 128) : Nat) : Int) := by
  rw [and63 x (by omega)]
  have := i64_or_nat (p * 64) (x % 64) (by omega) (by omega)
  rw [show ((p * 64 : Nat) : Int) = (p : Int) * 64 from by push_cast; rfl] at this
  have h2 := or_sum 6 p (x % 64) (by omega)
  rw [show 2 ^ 6 * p = p * 64 by omega] at h2
  rw [this, h2, show x % 64 = x - 128 by omega]
end Go.Proofs.YtgnialemiefeeaaDoor
/-
  Strings: a list of bytes as a string; '[]byte' made a string. No program in sight.
-/
namespace Go.Proofs.YtgnialemiefeeaaDoor
open Go.RowKit

/-- A list of bytes as a string. -/
def ofL (l : List UInt8) : ByteArray := ⟨l.toArray⟩
theorem ofL_toList (l : List UInt8) : (ofL l).data.toList = l := by simp [ofL]
theorem ofL_size (l : List UInt8) : (ofL l).size = l.length := by simp [ofL, ByteArray.size]
theorem ofL_of (s : ByteArray) : ofL s.data.toList = s := by
  cases s
  simp [ofL]
theorem ofL_inj {l m : List UInt8} (h : ofL l = ofL m) : l = m := by
  have := congrArg (fun s : ByteArray => s.data.toList) h
  simpa [ofL_toList] using this
theorem ofL_push (l : List UInt8) (c : UInt8) : (ofL l).push c = ofL (l ++ [c]) := by
  simp [ofL, ByteArray.push]
theorem foldl_push : ∀ (l r : List UInt8), (l.map fun c => (c.toNat : Int)).foldl (fun r n => r.push (UInt8.ofNat n.toNat)) (ofL r) = ofL (r ++ l)
  | [], r => by simp
  | c :: l, r => by
    simp only [List.map_cons, List.foldl_cons]
    rw [show UInt8.ofNat ((c.toNat : Int)).toNat = c by simp, ofL_push, foldl_push l]
    simp

theorem run_bytes_string {P : Program} {src dst e : TypeId} (hs : P.underlying src = some (.slice e)) (he : P.underlying e = some (.int .u8)) (hd : P.underlying dst = some .string)
    (w : World) (A : Option Addr) (n c B : Nat) (l : List UInt8) (h : Bytes w B A n l) : (convert src dst (.slice A n c)).run P w = .ok (.string (ofL l)) w := by
  rw [run_convert_bytes_string w src dst e A n c hs he hd]
  have hn := h.len
  rcases A with _ | a
  · have hz : l = [] := by
      rcases Nat.eq_zero_or_pos n with h0 | h0
      · exact List.eq_nil_of_length_eq_zero (by omega)
      · obtain ⟨_, _, e1, _⟩ := h.2 h0
        cases e1
    subst hz
    rfl
  · have hc : ∀ j v, (l.map bv)[j]? = some v → w.cell? (a.add j) = some v := by
      intro j v hj
      have h0 : 0 < n := by
        rcases Nat.eq_zero_or_pos n with h0 | h0
        · have : l = [] := List.eq_nil_of_length_eq_zero (by omega)
          subst this
          simp at hj
        · exact h0
      obtain ⟨b, off, e1, _, h2⟩ := h.2 h0
      injection e1 with e1
      subst e1
      rw [addr_add]
      exact h2 j v hj
    have hl := run_loadCells_list (P := P) (w := w) a (l.map bv) hc
    rw [List.length_map, hn] at hl
    have h2 := run_bytesToString (P := P) w a n c (l.map fun c => (c.toNat : Int)) (by rw [hl, List.map_map]; rfl)
    rw [h2]
    have h3 := foldl_push l []
    rw [show (ByteArray.empty) = ofL [] from rfl, h3]
    rfl
end Go.Proofs.YtgnialemiefeeaaDoor
