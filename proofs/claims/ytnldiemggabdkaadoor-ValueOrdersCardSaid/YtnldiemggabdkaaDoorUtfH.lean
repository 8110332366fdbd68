/-
  Layer 1: the table of forms; holds, room, starts, find.
-/
import Derived.Test.YtnldiemggabdkaaDoorRows
import Derived.Test.YtnldiemggabdkaaDoorAp
import Derived.Test.YtnldiemggabdkaaDoorUtfP
import Derived.Test.YtnldiemggabdkaaDoorSt
import Derived.Deep.RegionHeld3
import Derived.Deep.DrawnRows
import Derived.Deep.MidRow
import Derived.Deep.QuietTactic
import Derived.BigQuiet
import Derived.Lib.Hide
import Derived.Outline
namespace Go.Proofs.YtnldiemggabdkaaDoor
open Go.RowKit

def utab : List Value := [.int .i64 0, .int .i64 127, .int .i64 1, .int .i64 0, .int .i64 128, .int .i64 2047, .int .i64 2, .int .i64 192, .int .i64 2048, .int .i64 65535, .int .i64 3, .int .i64 224, .int .i64 65536, .int .i64 1114111, .int .i64 4, .int .i64 240]
/-- The forms as the program lays them. -/
def UTab (w : World) : Prop := w.rangeAt 1 0 utab
theorem UTab.lt {w : World} (h : UTab w) : 1 < w.heap.size := World.block_lt_of_cell? w _ (h 0 _ rfl)
theorem UTab.below {w w' : World} {B : Nat} (h : UTab w) (hb : Below B w w') (hB : 1 < B) : UTab w' := fun i v hi => (hb.cell (p := ⟨1, 0 + i, none⟩) hB).trans (h i v hi)
theorem UTab.drew {w : World} (h : UTab w) : UTab w.drew := h
theorem UTab.drewN {w : World} (h : UTab w) (k : Nat) : UTab (w.drewN k) := h
theorem UTab.alloc {w : World} (h : UTab w) (o : Obj) : UTab (w.alloc o) := h.below ((Below.refl _ _).alloc (Nat.le_refl _) o) h.lt
theorem UTab.setCell {w : World} (h : UTab w) {p : Addr} (hp : 1 < p.block) (v : Value) : UTab (w.setCell p v) := h.below ((Below.refl _ _).setCell (Nat.le_refl p.block) v) hp

/-- A form, as a value. -/
def formV (l h s d : Int) : Value := .agg #[.int .i64 l, .int .i64 h, .int .i64 s, .int .i64 d]
/-- A form holds a number. -/
def holdsB (l h n : Int) : Bool := decide (l ≤ n) && (decide (n ≤ h) && (decide (n < 55296) || decide (57343 < n)))

set_option maxRecDepth 20000 in
set_option maxHeartbeats 1000000 in
theorem holds_yes (l h s d n : Int) (w : World) (hh : holdsB l h n = true) :
    Calls Tryd.prog 87 #[.agg #[.int .i64 l, .int .i64 h, .int .i64 s, .int .i64 d], .int .i64 n] w fun e w' => e = .returned (.bool true) ∧ Below w.heap.size w w' := by
  unfold holdsB at hh
  simp only [Bool.and_eq_true, Bool.or_eq_true, decide_eq_true_eq] at hh
  obtain ⟨h1, h2, h3⟩ := hh
  go_enter Tryd.func87, Tryd.ntmps87
  rcases h3 with h3 | h3
  · go_wp2
    go_ret
    exact ⟨rfl, (Below.refl _ _).alloc (Nat.le_refl _) _⟩
  · have h4 : ¬ n < 55296 := by omega
    go_wp2
    go_ret
    exact ⟨rfl, (Below.refl _ _).alloc (Nat.le_refl _) _⟩
set_option maxRecDepth 20000 in
set_option maxHeartbeats 1000000 in
theorem holds_no (l h s d n : Int) (w : World) (hh : holdsB l h n = false) :
    Calls Tryd.prog 87 #[.agg #[.int .i64 l, .int .i64 h, .int .i64 s, .int .i64 d], .int .i64 n] w fun e w' => e = .returned (.bool false) ∧ Below w.heap.size w w' := by
  unfold holdsB at hh
  by_cases h1 : l ≤ n
  · by_cases h2 : n ≤ h
    · have h3 : ¬ n < 55296 ∧ ¬ 57343 < n := by
        simp [h1, h2] at hh
        omega
      obtain ⟨h3, h4⟩ := h3
      clear hh
      go_enter Tryd.func87, Tryd.ntmps87
      go_wp2
      go_ret
      exact ⟨rfl, (Below.refl _ _).alloc (Nat.le_refl _) _⟩
    · clear hh
      go_enter Tryd.func87, Tryd.ntmps87
      go_wp2
      go_ret
      exact ⟨rfl, (Below.refl _ _).alloc (Nat.le_refl _) _⟩
  · clear hh
    go_enter Tryd.func87, Tryd.ntmps87
    go_wp2
    go_ret
    exact ⟨rfl, (Below.refl _ _).alloc (Nat.le_refl _) _⟩

/-- The number of first bytes of the form of a size. -/
def roomOf (s : Int) : Int := if s = 1 then 128 else if s = 2 then 32 else if s = 3 then 16 else 8
set_option maxRecDepth 20000 in
theorem room_any (l h s d : Int) (w : World) (hs : s = 1 ∨ s = 2 ∨ s = 3 ∨ s = 4) :
    Calls Tryd.prog 94 #[.agg #[.int .i64 l, .int .i64 h, .int .i64 s, .int .i64 d]] w fun e w' => e = .returned (.int .i64 (roomOf s)) ∧ Below w.heap.size w w' := by
  rcases hs with rfl | rfl | rfl | rfl
  all_goals
    go_enter Tryd.func94, Tryd.ntmps94
    go_wp2
    go_ret
    exact ⟨rfl, (Below.refl _ _).alloc (Nat.le_refl _) _⟩

def startsB (s d n : Int) : Bool := decide (d ≤ n) && decide (n < d + roomOf s)
theorem room_bd (s : Int) : 8 ≤ roomOf s ∧ roomOf s ≤ 128 := by unfold roomOf; repeat' split <;> omega
set_option maxRecDepth 20000 in
set_option maxHeartbeats 1000000 in
theorem starts_any (l h s d n : Int) (w : World) (hs : s = 1 ∨ s = 2 ∨ s = 3 ∨ s = 4) (hd0 : 0 ≤ d) (hd : d ≤ 300) (hn : n ≤ 300) (hn0 : 0 ≤ n) :
    Calls Tryd.prog 86 #[.agg #[.int .i64 l, .int .i64 h, .int .i64 s, .int .i64 d], .int .i64 n] w fun e w' => e = .returned (.bool (startsB s d n)) ∧ Below w.heap.size w w' := by
  have hr := room_bd s
  have Hr := Lib.hid (show startsB s d n = (decide (d ≤ n) && decide (n < d + roomOf s)) from rfl)
  obtain ⟨W1, hW1⟩ : ∃ W1, w.alloc (.cells #[.int .i64 l, .int .i64 h, .int .i64 s, .int .i64 d] 111) = W1 := ⟨_, rfl⟩
  have hb1 : Below w.heap.size w W1 := by rw [← hW1]; exact (Below.refl _ _).alloc (Nat.le_refl _) _
  have c0 : ∀ W, Below W1.heap.size W1 W → W.cell? ⟨w.heap.size, 0, none⟩ = some (.int .i64 l) := fun W h => new_later (by rw [hW1]; exact h) 0 rfl
  have c1 : ∀ W, Below W1.heap.size W1 W → W.cell? ⟨w.heap.size, 1, none⟩ = some (.int .i64 h) := fun W h => new_later (by rw [hW1]; exact h) 1 rfl
  have c2 : ∀ W, Below W1.heap.size W1 W → W.cell? ⟨w.heap.size, 2, none⟩ = some (.int .i64 s) := fun W h => new_later (by rw [hW1]; exact h) 2 rfl
  have c3 : ∀ W, Below W1.heap.size W1 W → W.cell? ⟨w.heap.size, 3, none⟩ = some (.int .i64 d) := fun W h => new_later (by rw [hW1]; exact h) 3 rfl
  have d3 := c3 W1 (Below.refl _ _)
  by_cases hg : d ≤ n
  · have hg2 : decide (d ≤ n) = true := decide_eq_true hg
    have hw : IntKind.i64.wrap (d + roomOf s) = d + roomOf s := IntWalk.i64_in _ (by omega)
    generalize hR : roomOf s = r at *
    go_enter Tryd.func86, Tryd.ntmps86
    go_wp2
    go_region_held3 (fun w' => Below W1.heap.size W1 w') (first | assumption | exact (Below.refl _ _).drew | (refine S_call ?_ ?_ ?_; assumption; assumption; rfl)) (first
      | (go_at_call 94; with_reducible refine (room_any l h s d _ hs).mono ?_; rintro e wA ⟨rfl, hbA⟩; rw [hR]; have hSA := S_call hbA (by assumption) rfl))
    all_goals
      go_wp2
      go_ret
      exact ⟨by rw [Hr.out, hg2]; rfl, hb1.trans (Below.mono (B := W1.heap.size) (by assumption) hb1.size)⟩
  · have hg2 : decide (d ≤ n) = false := decide_eq_false hg
    go_enter Tryd.func86, Tryd.ntmps86
    go_wp2
    go_quiet (fail)
    go_wp2
    go_ret
    exact ⟨by rw [Hr.out, hg2]; rfl, below_drewN hb1 _⟩
end Go.Proofs.YtnldiemggabdkaaDoor
