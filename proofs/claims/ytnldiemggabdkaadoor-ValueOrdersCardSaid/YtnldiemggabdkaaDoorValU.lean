/-
  Layer 4: sorting two pairs, as Object does.
-/
import Derived.Test.YtnldiemggabdkaaDoorValT
namespace Go.Proofs.YtnldiemggabdkaaDoor
open Go.RowKit
set_option linter.unusedVariables false

set_option maxRecDepth 20000 in
set_option maxHeartbeats 1000000 in
/-- Two pairs in no wrong order. -/
theorem sort2_keep (g c : Nat) (x : ByteArray) (ak an : Int) (at' : ByteArray) (acA : Option Addr) (acn acc : Nat) (akA : Option Addr) (akn akc : Nat) (y : ByteArray) (bk bn : Int) (bt' : ByteArray) (bcA : Option Addr) (bcn bcc : Nat) (bkA : Option Addr) (bkn bkc : Nat) (w : World) (h : VTwelve w g (.string x) (.int .i64 ak) (.int .i64 an) (.string at') (.slice acA acn acc) (.slice akA akn akc) (.string y) (.int .i64 bk) (.int .i64 bn) (.string bt') (.slice bcA bcn bcc) (.slice bkA bkn bkc)) (hlt : vless y x = false) :
    Calls Tryd.prog 74 #[.slice (some ⟨g, 0, none⟩) 2 c, .int .i64 0, .int .i64 2, .func (.func 49) #[] #[]] w fun e w' => e = .returned (.tuple #[]) ∧ Below w.heap.size w w' := by
  have H := Lib.hid h
  obtain ⟨z, hz0, hz⟩ : ∃ z : Nat, vcmp y x = (z : Int) ∧ z ≤ 1 := by
    unfold vcmp; rw [hlt, if_neg (by decide)]
    split
    · exact ⟨1, rfl, Nat.le_refl _⟩
    · exact ⟨0, rfl, by omega⟩
  have hc := fun W => vpcmp_any y x (.int .i64 bk) (.int .i64 bn) (.string bt') (.slice bcA bcn bcc) (.slice bkA bkn bkc) (.int .i64 ak) (.int .i64 an) (.string at') (.slice acA acn acc) (.slice akA akn akc) W
  rw [hz0] at hc
  have hzn : ((z : Int) < 0) = False := by simp
  clear h hlt hz hz0
  go_enter Tryd.func74, Tryd.ntmps74
  go_wp2
  go_loopw [8] (fun i wr => (i = .int .i64 1 ∧ wr = w) ∨ (i = .int .i64 2 ∧ Below w.heap.size w wr)) (fun i _ => 5 - (intOf i).toNat)
  case atStart => exact .inl ⟨rfl, rfl⟩
  case round =>
    rcases hrel with ⟨rfl, hwr⟩ | ⟨rfl, h3⟩
    · have hwr := hwr.symm
      subst hwr
      go_wp2
      go_loopw [9] (fun j wr => j = .int .i64 1 ∧ wr = w) (fun j _ => (intOf j).toNat)
      case atStart => exact ⟨rfl, rfl⟩
      case round =>
          obtain ⟨rfl, hwr⟩ := hrel
          have hwr := hwr.symm
          subst hwr
          have p0 : ∀ W, Below w.heap.size w W → W.cell? ⟨g, 0, none⟩ = some (.string x) := fun W h => (H.out.later h).c.1
          have p1 : ∀ W, Below w.heap.size w W → W.cell? ⟨g, 1, none⟩ = some (.int .i64 ak) := fun W h => (H.out.later h).c.2.1
          have p2 : ∀ W, Below w.heap.size w W → W.cell? ⟨g, 2, none⟩ = some (.int .i64 an) := fun W h => (H.out.later h).c.2.2.1
          have p3 : ∀ W, Below w.heap.size w W → W.cell? ⟨g, 3, none⟩ = some (.string at') := fun W h => (H.out.later h).c.2.2.2.1
          have p4 : ∀ W, Below w.heap.size w W → W.cell? ⟨g, 4, none⟩ = some (.slice acA acn acc) := fun W h => (H.out.later h).c.2.2.2.2.1
          have p5 : ∀ W, Below w.heap.size w W → W.cell? ⟨g, 5, none⟩ = some (.slice akA akn akc) := fun W h => (H.out.later h).c.2.2.2.2.2.1
          have q0 : ∀ W, Below w.heap.size w W → W.cell? ⟨g, 6, none⟩ = some (.string y) := fun W h => (H.out.later h).c.2.2.2.2.2.2.1
          have q1 : ∀ W, Below w.heap.size w W → W.cell? ⟨g, 7, none⟩ = some (.int .i64 bk) := fun W h => (H.out.later h).c.2.2.2.2.2.2.2.1
          have q2 : ∀ W, Below w.heap.size w W → W.cell? ⟨g, 8, none⟩ = some (.int .i64 bn) := fun W h => (H.out.later h).c.2.2.2.2.2.2.2.2.1
          have q3 : ∀ W, Below w.heap.size w W → W.cell? ⟨g, 9, none⟩ = some (.string bt') := fun W h => (H.out.later h).c.2.2.2.2.2.2.2.2.2.1
          have q4 : ∀ W, Below w.heap.size w W → W.cell? ⟨g, 10, none⟩ = some (.slice bcA bcn bcc) := fun W h => (H.out.later h).c.2.2.2.2.2.2.2.2.2.2.1
          have q5 : ∀ W, Below w.heap.size w W → W.cell? ⟨g, 11, none⟩ = some (.slice bkA bkn bkc) := fun W h => (H.out.later h).c.2.2.2.2.2.2.2.2.2.2.2
          have hS0 : Below w.heap.size w w.drew := below_drewN (Below.refl _ _) 1
          have hw0 : IntKind.i64.wrap ((1 : Int) - 1) = 0 := by decide
          have hw1 : IntKind.i64.wrap (0 : Int) = 0 := by decide
          have hw2 : RowKit.wrap64 ((1 : Int) - 1) = 0 := by unfold RowKit.wrap64; omega
          have hw3 : RowKit.wrap64 (0 : Int) = 0 := by unfold RowKit.wrap64; omega
          go_upto_region 4 with fail
          go_region_held3 (fun W => Below w.heap.size w W) (first | (with_reducible assumption) | exact Below.drew (by with_reducible assumption))
            ((go_at_call 49; (with_reducible refine (hc _).mono ?_); (rintro e wA ⟨rfl, hbA⟩); (have hSA := S_call hbA (by first | (with_reducible assumption) | exact Below.drew (by with_reducible assumption)) rfl)))
          all_goals
            have hSE : Below w.heap.size w wA := by with_reducible assumption
            go_wp2
            exact ⟨.inr ⟨rfl, hSE⟩, by simp [intOf]⟩
    · go_wp2
      refine bodyPost_end (results_none rfl _ _ _) rfl ?_
      exact ⟨rfl, h3⟩

/-- Two pairs sorted. -/
def Sorts (f : Nat) (args : Nat → Nat → Array Value) : Prop := ∀ (g c : Nat) (x : ByteArray) (ak an : Int) (at' : ByteArray) (acA : Option Addr) (acn acc : Nat) (akA : Option Addr) (akn akc : Nat) (y : ByteArray) (bk bn : Int) (bt' : ByteArray) (bcA : Option Addr) (bcn bcc : Nat) (bkA : Option Addr) (bkn bkc : Nat) (w : World), VTwelve w g (.string x) (.int .i64 ak) (.int .i64 an) (.string at') (.slice acA acn acc) (.slice akA akn akc) (.string y) (.int .i64 bk) (.int .i64 bn) (.string bt') (.slice bcA bcn bcc) (.slice bkA bkn bkc) →
    Calls Tryd.prog f (args g c) w fun e w' => e = .returned (.tuple #[]) ∧ Below (min g w.heap.size) w w' ∧ Hid ((vless y x = true → VTwelve w' g (.string y) (.int .i64 bk) (.int .i64 bn) (.string bt') (.slice bcA bcn bcc) (.slice bkA bkn bkc) (.string x) (.int .i64 ak) (.int .i64 an) (.string at') (.slice acA acn acc) (.slice akA akn akc)) ∧ (vless y x = false → VTwelve w' g (.string x) (.int .i64 ak) (.int .i64 an) (.string at') (.slice acA acn acc) (.slice akA akn akc) (.string y) (.int .i64 bk) (.int .i64 bn) (.string bt') (.slice bcA bcn bcc) (.slice bkA bkn bkc)))
theorem insertion2 : Sorts 74 fun g c => #[.slice (some ⟨g, 0, none⟩) 2 c, .int .i64 0, .int .i64 2, .func (.func 49) #[] #[]] := by
  intro g c x ak an at' acA acn acc akA akn akc y bk bn bt' bcA bcn bcc bkA bkn bkc w h
  by_cases hl : vless y x = true
  · refine (sort2_swap g c x ak an at' acA acn acc akA akn akc y bk bn bt' bcA bcn bcc bkA bkn bkc w h hl).mono ?_
    rintro e w' ⟨rfl, h1, h2⟩
    exact ⟨rfl, h2, Lib.hid ⟨fun _ => h1, fun h => (by rw [hl] at h; cases h)⟩⟩
  · refine (sort2_keep g c x ak an at' acA acn acc akA akn akc y bk bn bt' bcA bcn bcc bkA bkn bkc w h (by simpa using hl)).mono ?_
    rintro e w' ⟨rfl, h1⟩
    exact ⟨rfl, h1.mono (Nat.min_le_right _ _), Lib.hid ⟨fun h => absurd h hl, fun _ => h.later h1⟩⟩
set_option maxRecDepth 20000 in
set_option maxHeartbeats 1000000 in
theorem pdq2 (lim : Int) : Sorts 61 fun g c => #[.slice (some ⟨g, 0, none⟩) 2 c, .int .i64 0, .int .i64 2, .int .i64 lim, .func (.func 49) #[] #[]] := by
  intro g c x ak an at' acA acn acc akA akn akc y bk bn bt' bcA bcn bcc bkA bkn bkc w h
  have hi := Lib.hid (insertion2 g c x ak an at' acA acn acc akA akn akc y bk bn bt' bcA bcn bcc bkA bkn bkc w h)
  clear h
  go_enter Tryd.func61, Tryd.ntmps61
  go_wp2
  go_loopw [1, 2, 3, 10, 11] (fun a b l p q wr => a = .int .i64 0 ∧ b = .int .i64 2 ∧ l = .int .i64 lim ∧ p = .bool true ∧ q = .bool true ∧ wr = w) (fun a _ _ _ _ _ => (intOf a).toNat)
  case atStart => exact ⟨rfl, rfl, rfl, rfl, rfl, rfl⟩
  case round =>
    obtain ⟨rfl, rfl, rfl, rfl, rfl, hwr⟩ := hrel
    have hwr := hwr.symm
    subst hwr
    go_wp2_with fail
    refine hi.out.mono ?_
    rintro e w1 ⟨rfl, h1, h2⟩
    go_wp2
    refine bodyPost_ret (results_none rfl _ _ _) rfl ?_
    exact ⟨rfl, h1, h2⟩
set_option maxRecDepth 20000 in
set_option maxHeartbeats 1000000 in
theorem sortFunc2 : Sorts 48 fun g c => #[.slice (some ⟨g, 0, none⟩) 2 c, .func (.func 49) #[] #[]] := by
  intro g c x ak an at' acA acn acc akA akn akc y bk bn bt' bcA bcn bcc bkA bkn bkc w h
  have hi := fun lim => Lib.hid (pdq2 lim g c x ak an at' acA acn acc akA akn akc y bk bn bt' bcA bcn bcc bkA bkn bkc w h)
  clear h
  have hc : IntKind.u64.wrap (2 : Int) = 2 := by decide
  go_enter Tryd.func48, Tryd.ntmps48
  go_wp2_with fail
  refine (Tryd.bits_Len 2 _ (by omega) (by omega)).mono ?_
  rintro e w1 ⟨rfl, rfl⟩
  go_wp2_with fail
  refine (hi _).out.mono ?_
  rintro e w1 ⟨rfl, h1, h2⟩
  go_wp2
  refine bodyPost_end (results_none rfl _ _ _) rfl ?_
  exact ⟨rfl, h1, h2⟩
end Go.Proofs.YtnldiemggabdkaaDoor
