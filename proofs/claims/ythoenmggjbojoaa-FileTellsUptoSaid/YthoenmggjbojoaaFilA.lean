/-
  Layer 10: the iterator over a file's pieces.
-/
import Derived.Test.YthoenmggjbojoaaChecked
import Derived.Test.YthoenmggjbojoaaFilP
import Derived.RangeFuncNested
import Derived.RangeFuncBound
import Derived.RangeFuncCalls
import Derived.RangeFuncLeaves
import Derived.Shelf.Abstract
import Derived.Shelf.RegionOpen
import Derived.WalkKit
import Derived.OwnWalkIn
import Derived.TacticsInMore
import Derived.LoopNIn
import Derived.LoopIn
import Derived.Stop.RegionWithIn
import Derived.Deep.DeepCutAuto
import Derived.Lib.Hide
namespace Go.Proofs.Ythoenmggjbojoaa
open Go.RowKit Go.Shelf
attribute [local go_sem] Oper.semAt_some
set_option linter.unusedVariables false

theorem pieces_any (fA : Option Addr) (fn fc : Nat) (lA : Option Addr) (ln lc : Nat) (u v : Int) (b : Bool) (w : World) : Calls Try.prog 53 #[.agg #[.slice fA fn fc, .slice lA ln lc, .int .i64 u, .int .i64 v, .bool b]] w fun e w' =>
    e = .returned (.func (.func 58) #[] #[.pointer (some ⟨w.heap.size, 0, none⟩)]) ∧ w.alloc (.cells #[.slice fA fn fc, .slice lA ln lc, .int .i64 u, .int .i64 v, .bool b] 25) = w' := by
  go_enter Try.func53, Try.ntmps53
  go_wp2
  go_ret
  exact ⟨rfl, rfl⟩
/-- All of a file's rows, the firm one first. -/
def FileT.Q (X : FileT) : List PcT := X.F :: X.L
set_option maxRecDepth 100000 in
set_option maxHeartbeats 2000000 in
theorem pieces1_in (n : Nat) (hn : 1 ≤ n) (l Bf B : Nat) (X : FileT) (J : Nat → World → Prop) (Jx : World → Prop) (W : World) (hln : X.ln ≤ maxLen)
    (hR : ∀ k W, J k W → W.cell? ⟨Bf, 0, none⟩ = some (.slice X.F.A X.F.n X.F.c) ∧ W.cell? ⟨Bf, 1, none⟩ = some (.slice X.lA X.ln X.lc) ∧ Shows W B 1 X.lA X.ln (X.L.map PcT.val))
    (hY : ∀ k p W, J k W → X.Q[k]? = some p → YieldAt Fence.wide (n - 1) Try.prog l #[.int .i64 ((sumN (X.Q.take k) : Nat) : Int), .slice p.A p.n p.c] W fun e W' =>
      (e = .returned (.bool true) ∧ J (k + 1) W' ∧ sumN (X.Q.take (k + 1)) ≤ 524288) ∨ (e = .returned (.bool false) ∧ Jx W'))
    (h0 : J 0 W) :
    CallsIn Fence.wide n Try.prog 58 #[.func (.yield l) #[] #[], .pointer (some ⟨Bf, 0, none⟩)] W fun e W' => (∃ v, e = .returned v) ∧ (J (X.ln + 1) W' ∨ Jx W') := by
  unfold maxLen at hln
  obtain ⟨f0, -, -⟩ := hR 0 W h0
  obtain ⟨fn, tmps, assign, body, hy, hR0⟩ := hY 0 X.F W h0 rfl
  have hs0 : sumN (X.Q.take 0) = 0 := rfl
  rw [hs0, show ((0 : Nat) : Int) = 0 from rfl] at hy
  clear hs0
  refine callsIn_of_wp Try.func58 rfl trivial ?_ rfl
  simp only [Try.ntmps58, List.size_toArray, List.length_cons, List.length_nil, Nat.reduceAdd, Nat.reduceSub, Array.replicate_succ, Array.replicate_zero, List.push_toArray, List.append_toArray, List.nil_append, List.cons_append]
  gi_wp2
  refine hR0.mono ?_
  rintro e W3 (⟨rfl, hJ, hbd⟩ | ⟨rfl, hJx⟩)
  rotate_left
  · clear hR hY hR0 hy
    gi_wp2
    refine bodyPost_ret (results_none rfl _ _ _) rfl ?_
    exact ⟨⟨_, rfl⟩, .inr hJx⟩
  · obtain ⟨g0, g1, -⟩ := hR 1 W3 hJ
    clear hR0 hy f0
    have hs1 : (X.F.n : Int) = ((sumN (X.Q.take 1) : Nat) : Int) := by
      have : sumN (X.Q.take 1) = X.F.n := by unfold FileT.Q sumN; simp
      rw [this]
    gi_wp2
    gi_loopw [3, 17] (fun a t wr => ∃ j m : Nat, j ≤ X.ln ∧ t = .int .i64 j ∧ a = .int .i64 m ∧ Hid (m = sumN (X.Q.take (j + 1))) ∧ m ≤ 524288 ∧ J (j + 1) wr) (fun _ t _ => X.ln - (intOf t).toNat)
    case atStart => exact ⟨0, X.F.n, Nat.zero_le _, rfl, rfl, Lib.hid (by unfold FileT.Q sumN; simp), by unfold FileT.Q sumN at hbd; simpa using hbd, hJ⟩
    case round =>
      obtain ⟨j, m, hj, rfl, rfl, HM, hm, hJ2⟩ := hrel
      rename World => wr
      obtain ⟨-, -, hS⟩ := hR (j + 1) wr hJ2
      clear hs1 g0 g1 hJ hbd
      by_cases hlt : j < X.ln
      · obtain ⟨b, off, p, hA, _, hp, hc⟩ := pc_at hS hlt
        obtain ⟨fn, tmps, assign, body, hy, hR0⟩ := hY (j + 1) p wr hJ2 (by unfold FileT.Q; rw [List.getElem?_cons_succ]; exact hp)
        have HN := Lib.hid (show sumN (X.Q.take (j + 1 + 1)) = m + p.n by
          rw [HM.out]
          have hq : X.Q[j + 1]? = some p := by unfold FileT.Q; rw [List.getElem?_cons_succ]; exact hp
          unfold sumN
          rw [List.take_add_one, hq]
          simp)
        rw [← HM.out] at hy
        have hlt' : (j : Int) < X.ln := by omega
        rw [hA]
        clear hS hp
        gi_wp2
        refine hR0.mono ?_
        rintro e W4 (⟨rfl, hJ3, hb3⟩ | ⟨rfl, hJx⟩)
        · rw [HN.out] at hb3
          have hsum : IntKind.i64.wrap ((m : Int) + p.n) = ((m + p.n : Nat) : Int) := by rw [IntKind.wrap_i64]; omega
          have hsu2 : wrap64 ((m : Int) + p.n) = ((m + p.n : Nat) : Int) := by unfold wrap64; omega
          clear hR hY hR0 hy hc hJ2
          gi_wp2
          go_roundw
          case rel => exact ⟨j + 1, m + p.n, by omega, by go_num, by first | rfl | go_num, Lib.hid HN.out.symm, hb3, hJ3⟩
          case measure => simp [intOf]; omega
        · clear hR hY hR0 hy hc hJ2
          gi_wp2
          refine bodyPost_ret (results_none rfl _ _ _) rfl ?_
          exact ⟨⟨_, rfl⟩, .inr hJx⟩
      · obtain rfl : j = X.ln := by omega
        gi_wp2
        go_end0
        exact ⟨⟨_, rfl⟩, .inl hJ2⟩
end Go.Proofs.Ythoenmggjbojoaa
