/-
  Layer 10: Check, and the reference's Right.
-/
import Derived.Test.YthoenmggjbojoaaFilK
namespace Go.Proofs.Ythoenmggjbojoaa
open Go.RowKit
set_option linter.unusedVariables false

def hollowB (L : List PcT) : Bool := L.any fun p => p.n == 0
theorem hollow_yes {L : List PcT} {k : Nat} {p : PcT} (h : L[k]? = some p) (h0 : p.n = 0) : hollowB L = true := by
  unfold hollowB
  rw [List.any_eq_true]
  exact ⟨p, List.mem_of_getElem? h, by simp [h0]⟩
theorem hollow_no {L : List PcT} (h : ∀ k p, k < L.length → L[k]? = some p → p.n ≠ 0) : hollowB L = false := by
  unfold hollowB
  rw [List.any_eq_false]
  intro p hp
  obtain ⟨k, hk, he⟩ := List.getElem_of_mem hp
  have := h k p hk (by rw [List.getElem?_eq_getElem hk, he])
  simpa using this
theorem right_hollow (X : FileT) : X.right = (!hollowB X.L && (decide (-1 ≤ X.fuse) && (decide (-1 ≤ X.fault) && ((!X.off || X.fuse == -1) && decide (X.long ≤ 524288))))) := by
  unfold FileT.right hollowB
  congr 1
  rw [List.all_eq_not_any_not]
  simp
set_option maxRecDepth 20000 in
theorem check1_any (A : Option Addr) (n c : Nat) (w : World) : Calls Try.prog 40 #[.slice A n c] w fun e w' => e = .returned (.bool (decide (n = 0))) ∧ w = w' := by
  by_cases h : n = 0
  · subst h
    go_enter Try.func40, Try.ntmps40
    go_wp2
    go_ret
    exact ⟨rfl, rfl⟩
  · have h1 : ((n : Int) == 0) = false := by rw [beq_eq_false_iff_ne]; omega
    rw [decide_eq_false h]
    go_enter Try.func40, Try.ntmps40
    go_wp2
    go_ret
    exact ⟨by first | rfl | simp, rfl⟩
set_option maxRecDepth 20000 in
set_option maxHeartbeats 1000000 in
theorem indexP_any (A : Option Addr) (n c B : Nat) (L : List PcT) (w : World) (h : Shows w B 1 A n (L.map PcT.val)) (hn : n ≤ maxLen) :
    Calls Try.prog 52 #[.slice A n c, .func (.func 40) #[] #[]] w fun e w' => ∃ r : Int, e = .returned (.int .i64 r) ∧ Hid (decide (0 ≤ r) = hollowB L) ∧ w = w' := by
  unfold maxLen at hn
  have HL := Lib.hid (show L.length = n by have := h.1; simpa using this)
  have HS := Lib.hid h
  clear h
  go_enter Try.func52, Try.ntmps52
  go_wp2
  go_loopw [8] (fun i wr => ∃ j : Nat, j ≤ n ∧ i = .int .i64 j ∧ Hid (∀ k p, k < j → L[k]? = some p → p.n ≠ 0) ∧ w = wr) (fun i _ => n - (intOf i).toNat)
  case atStart => exact ⟨0, Nat.zero_le _, rfl, Lib.hid (fun k p hk => absurd hk (Nat.not_lt_zero k)), rfl⟩
  case round =>
    obtain ⟨j, hj, rfl, HN, rfl⟩ := hrel
    by_cases hlt : j < n
    · obtain ⟨b, off, p, rfl, _, hp, hc⟩ := pc_at HS.out hlt
      have hlt' : (j : Int) < n := by omega
      have hc1 := check1_any p.A p.n p.c w
      by_cases h0 : p.n = 0
      · rw [decide_eq_true h0] at hc1
        have HR := Lib.hid (show decide ((0 : Int) ≤ (j : Int)) = hollowB L by rw [hollow_yes hp h0]; simp)
        clear h0 hp HN HS HL
        go_wp2_with fail
        refine hc1.mono ?_
        rintro e W ⟨rfl, rfl⟩
        go_wp2
        go_ret
        exact ⟨_, rfl, HR, rfl⟩
      · rw [decide_eq_false h0] at hc1
        have HN2 := Lib.hid (show ∀ k q, k < j + 1 → L[k]? = some q → q.n ≠ 0 from fun k q hk hq => by
          by_cases e : k = j
          · subst e
            rw [hp] at hq
            cases hq
            exact h0
          · exact HN.out k q (by omega) hq)
        clear h0 hp HN
        go_wp2_with fail
        refine hc1.mono ?_
        rintro e W ⟨rfl, rfl⟩
        clear hc1
        go_wp2
        go_roundw
        case rel => exact ⟨j + 1, by omega, by go_num, HN2, by first | exact trivial | rfl⟩
        case measure => simp [intOf]; omega
    · obtain rfl : j = n := by omega
      have HR := Lib.hid (show decide ((0 : Int) ≤ -1) = hollowB L by rw [hollow_no fun k p hk hp => HN.out k p (by rw [HL.out] at hk; exact hk) hp]; rfl)
      clear HN HS
      go_wp2
      go_ret
      exact ⟨_, rfl, HR, rfl⟩
theorem containsP_any (A : Option Addr) (n c B : Nat) (L : List PcT) (w : World) (h : Shows w B 1 A n (L.map PcT.val)) (hn : n ≤ maxLen) :
    Calls Try.prog 39 #[.slice A n c, .func (.func 40) #[] #[]] w fun e w' => e = .returned (.bool (hollowB L)) ∧ w = w' := by
  have hi := indexP_any A n c B L w h hn
  go_enter Try.func39, Try.ntmps39
  go_wp2_with fail
  refine hi.mono ?_
  rintro e W ⟨r, rfl, HR, rfl⟩
  clear hi
  go_wp2
  go_ret
  exact ⟨by rw [← HR.out]; rfl, rfl⟩
end Go.Proofs.Ythoenmggjbojoaa
