/-
  Layer 10: how much of a piece survives.
-/
import Derived.Test.YthoenmggjbojoaaFilAH
import Derived.Test.YthoenmggjbojoaaFilD
namespace Go.Proofs.Ythoenmggjbojoaa
open Go.RowKit
set_option linter.unusedVariables false

theorem surv_any (p : PcT) (i B : Nat) (k : BoT) (tear cut : Int) (w : World) (hp : p.l.length = p.n) (hk : k.Ok w B) :
    Calls Try.prog 44 #[.slice p.A p.n p.c, .int .i64 i, .slice k.A k.n k.c, .int .i64 tear, .int .i64 cut] w fun e w' => e = .returned (.int .i64 (survN p.l i k.l tear cut : Nat)) ∧ w = w' := by
  by_cases ht : (i : Int) = tear
  · have h1 : ((i : Int) == tear) = true := by rw [beq_iff_eq]; exact ht
    have hs : ((survN p.l i k.l tear cut : Nat) : Int) = min (max cut 0) (p.n : Int) := by
      unfold survN
      rw [if_pos ht, hp]
      omega
    have e1 : (if cut < 0 then 0 else cut) = max cut 0 := by split <;> omega
    have e2 : (if (p.n : Int) < max cut 0 then (p.n : Int) else max cut 0) = min (max cut 0) (p.n : Int) := by split <;> omega
    rw [hs]
    clear hs ht hp hk
    generalize hm : max cut 0 = m at *
    generalize hq : min m (p.n : Int) = q at *
    clear hm hq
    go_enter Try.func44, Try.ntmps44
    go_wp2
    all_goals
      (try rw [Exit.noGoto_ret])
      go_ret
      exact ⟨rfl, rfl⟩
  · have h1 : ((i : Int) == tear) = false := by rw [beq_eq_false_iff_ne]; exact ht
    by_cases hi : i < k.n
    · obtain ⟨b, off, hA, hb, hc⟩ := hk.here.cell hi
      have h2 : ((i : Int) < (k.n : Int)) = True := by simp; omega
      have h3 : (0 : Int) ≤ (i : Int) := by omega
      have hs : survN p.l i k.l tear cut = if k.l.getD i false = true then p.n else 0 := by
        unfold survN
        rw [if_neg ht, hp]
      rw [hs, hA]
      clear hs ht hp hk hA
      cases hv : k.l.getD i false
      · rw [hv] at hc
        clear hv
        go_enter Try.func44, Try.ntmps44
        go_wp2
        all_goals
          (try rw [Exit.noGoto_ret])
          go_ret
          exact ⟨rfl, rfl⟩
      · rw [hv] at hc
        clear hv
        go_enter Try.func44, Try.ntmps44
        go_wp2
        all_goals
          (try rw [Exit.noGoto_ret])
          go_ret
          exact ⟨rfl, rfl⟩
    · have h2 : ((i : Int) < (k.n : Int)) = False := by simp; omega
      have hs : survN p.l i k.l tear cut = 0 := by
        unfold survN
        rw [if_neg ht, List.getD_eq_getElem?_getD, List.getElem?_eq_none (by have := hk.here.1; simp at this; omega)]
        rfl
      rw [hs]
      clear hs ht hp hk
      go_enter Try.func44, Try.ntmps44
      go_wp2
      all_goals
        (try rw [Exit.noGoto_ret])
        go_ret
        exact ⟨rfl, rfl⟩
end Go.Proofs.Ythoenmggjbojoaa
