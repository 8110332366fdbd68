/-
  Layer 2: the iterator over the signs of a row.
-/
import Derived.Test.YtgnialemiefeeaaDoorQuoC
import Derived.Test.YtgnialemiefeeaaDoorQuoD
import Derived.RangeFuncBound
import Derived.RangeFuncCalls
import Derived.RangeFuncLeaves
import Derived.Shelf.Abstract
import Derived.Shelf.RegionOpen
import Derived.OwnWalkIn
import Derived.TacticsInMore
import Derived.LoopNIn
import Derived.LoopIn
import Derived.Stop.RegionWithIn
import Derived.Deep.DeepCutAuto
namespace Go.Proofs.YtgnialemiefeeaaDoor
open Go.RowKit Go.Shelf
attribute [local go_sem] Oper.semAt_some

set_option maxRecDepth 20000 in
theorem signs_any (A : Option Addr) (m c0 : Nat) (p : Int) (w : World) :
    Calls Tryd.prog 38 #[.slice A m c0, .int .i64 p] w fun e w' => e = .returned (.func (.func 56) #[] #[.pointer (some ⟨w.heap.size, 0, none⟩), .pointer (some ⟨w.heap.size + 1, 0, none⟩)]) ∧ (w.alloc (.cells #[.slice A m c0] 22)).alloc (.cells #[.int .i64 p] 3) = w' := by
  go_enter Tryd.func38, Tryd.ntmps38
  go_wp2
  go_ret
  exact ⟨by simp, rfl⟩

/-- What a round is handed. -/
def signA (l : List UInt8) (q : Nat) : Value :=
  if (begL (l.drop q)).2 = 0 then .agg #[.int .i64 0, .int .i64 0, .int .i64 (faultN l q)]
  else .agg #[.int .i64 ((begL (l.drop q)).1 : Int), .int .i64 ((q + (begL (l.drop q)).2 : Nat) : Int), .int .i64 0]
theorem fault_ne (l : List UInt8) (q : Nat) : (faultN l q == 0) = false := by
  unfold faultN
  split
  · rfl
  · split <;> rfl

set_option maxRecDepth 100000 in
set_option maxHeartbeats 2000000 in
theorem signs_in (n : Nat) (hn : 1 ≤ n) (ln Bb Bo : Nat) (A : Option Addr) (m c0 : Nat) (l : List UInt8) (J : Nat → Nat → World → Prop) (Jx : World → Prop) (hm : m ≤ maxLen) (hmc : m ≤ c0) (hlen : l.length = m)
    (hJ1 : ∀ q c W W', J q c W → Below W.heap.size W W' → J q c W')
    (hJ2 : ∀ q c c' W, J q c W → J q c' (W.setCell ⟨Bo, 0, none⟩ (.int .i64 (c' : Nat))))
    (hJ3 : ∀ q c W, J q c W → W.cell? ⟨Bb, 0, none⟩ = some (.slice A m c0) ∧ W.cell? ⟨Bo, 0, none⟩ = some (.int .i64 (c : Nat)) ∧ W.frozen? ⟨Bo, 0, none⟩ = false ∧ UTab W ∧ ETab W ∧ Bytes W W.heap.size A m l ∧ q ≤ m)
    (hY : ∀ q W, J q q W → (begL (l.drop q)).2 ≠ 0 → YieldAt Fence.wide (n - 1) Tryd.prog ln #[signA l q] W fun e W' => e = .returned (.bool true) ∧ J (q + (begL (l.drop q)).2) q W')
    (hN : ∀ q W, J q q W → (begL (l.drop q)).2 = 0 → YieldAt Fence.wide (n - 1) Tryd.prog ln #[signA l q] W fun e W' => e = .returned (.bool false) ∧ Jx W')
    (p : Nat) (W : World) (h0 : J p p W) :
    CallsIn Fence.wide n Tryd.prog 56 #[.func (.yield ln) #[] #[], .pointer (some ⟨Bb, 0, none⟩), .pointer (some ⟨Bo, 0, none⟩)] W fun e W' => (∃ v, e = .returned v) ∧ Jx W' := by
  refine callsIn_of_wp Tryd.func56 rfl trivial ?_ rfl
  simp only [Tryd.ntmps56, List.size_toArray, List.length_cons, List.length_nil, Nat.reduceAdd, Nat.reduceSub, Array.replicate_succ, Array.replicate_zero, List.push_toArray, List.append_toArray, List.nil_append, List.cons_append]
  gi_wp2
  gi_loopw [4] (fun _ wr => ∃ q : Nat, J q q wr) (fun _ wr => m - (intOf ((wr.cell? ⟨Bo, 0, none⟩).getD undef)).toNat)
  case atStart => exact ⟨p, h0⟩
  case round =>
    obtain ⟨q, hq⟩ := hrel
    obtain ⟨d1, d2, d3, htab, hesc, hl, hqm⟩ := hJ3 q q _ hq
    have hs := callsIn_wide (n := n - 1) |>.2 (sign_in A m c0 _ q l _ htab hesc hl (Nat.le_refl _) hm hmc hqm)
    by_cases hb : (begL (l.drop q)).2 = 0
    · rw [sign_no hb] at hs
      gi_wp2_with fail
      refine ⟨trivial, hs.mono ?_⟩
      rintro e W1 ⟨rfl, hb1⟩
      have hq1 := hJ1 _ _ _ _ hq hb1
      obtain ⟨fn, tmps, assign, body, hy, hR⟩ := hN q W1 hq1 hb
      have hne := fault_ne l q
      unfold signA at hy
      rw [if_pos hb] at hy
      clear hJ1 hJ2 hJ3 hY hN hs hb hq hq1 h0
      generalize faultN l q = z at *
      gi_wp2
      refine hR.mono ?_
      rintro e W3 ⟨rfl, hx⟩
      gi_wp2
      refine bodyPost_ret (results_none rfl _ _ _) rfl ?_
      exact ⟨⟨_, rfl⟩, hx⟩
    · rw [sign_yes (l := l) (p := q) (c := (begL (l.drop q)).1) (n := (begL (l.drop q)).2) rfl hb] at hs
      have hle := beg_le (l.drop q)
      rw [List.length_drop, hlen] at hle
      gi_wp2_with fail
      refine ⟨trivial, hs.mono ?_⟩
      rintro e W1 ⟨rfl, hb1⟩
      have hq1 := hJ1 _ _ _ _ hq hb1
      obtain ⟨fn, tmps, assign, body, hy, hR⟩ := hY q W1 hq1 hb
      unfold signA at hy
      rw [if_neg hb] at hy
      have hlt : q + (begL (l.drop q)).2 ≤ m := by omega
      have hpos : q < q + (begL (l.drop q)).2 := by omega
      have HJ := Lib.hid (show ∀ W', J (q + (begL (l.drop q)).2) q W' → W'.cell? ⟨Bo, 0, none⟩ = some (.int .i64 (q : Nat)) ∧ W'.frozen? ⟨Bo, 0, none⟩ = false ∧ J (q + (begL (l.drop q)).2) (q + (begL (l.drop q)).2) (W'.setCell ⟨Bo, 0, none⟩ (.int .i64 ((q + (begL (l.drop q)).2 : Nat) : Int))) from
        fun W' h => ⟨(hJ3 _ _ _ h).2.1, (hJ3 _ _ _ h).2.2.1, hJ2 _ _ _ _ h⟩)
      clear hJ1 hJ2 hJ3 hY hN hs hq hq1 h0 hb hle
      generalize q + (begL (l.drop q)).2 = r at *
      generalize (((begL (l.drop q)).1 : Nat) : Int) = c at *
      gi_wp2
      refine hR.mono ?_
      rintro e W3 ⟨rfl, hx⟩
      obtain ⟨x1, x2, x3⟩ := HJ.out W3 hx
      have hm' := Lib.hid (And.intro hlt hpos)
      have Hd2 := Lib.hid d2
      clear hx HJ hb1 hlt hpos htab hesc hl hqm d1 d2 d3 hy hR
      gi_wp2
      go_roundw
      case rel => exact ⟨r, x3⟩
      case measure =>
        have h2 := hm'.out
        have h3 := Hd2.out
        rw [cell_set x1, h3]
        simp [intOf]
        omega
end Go.Proofs.YtgnialemiefeeaaDoor
