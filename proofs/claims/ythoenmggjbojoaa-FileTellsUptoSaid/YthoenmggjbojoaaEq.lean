import Derived.Test.YthoenmggjbojoaaRows
import Derived.Test.YthoenmggjbojoaaW
import Derived.Deep.QuietTactic
import Derived.BigQuiet
import Derived.Lib.Hide
namespace Go.Proofs.Ythoenmggjbojoaa
open Go.RowKit

def sameB (l1 l2 : List UInt8) : Bool := decide (l1 = l2)

set_option maxRecDepth 20000 in
set_option maxHeartbeats 1000000 in
theorem equal_any (A1 A2 : Option Addr) (n1 c1 n2 c2 : Nat) (l1 l2 : List UInt8) (B1 B2 : Nat) (w : World) (h1 : Bytes w B1 A1 n1 l1) (h2 : Bytes w B2 A2 n2 l2) (hm1 : n1 ≤ maxLen) (hm2 : n2 ≤ maxLen) :
    Calls Try.prog 31 #[.slice A1 n1 c1, .slice A2 n2 c2] w fun e w' => e = .returned (.bool (sameB l1 l2)) ∧ ∃ k, w' = w.drewN k := by
  unfold maxLen at hm1 hm2
  by_cases hn : n1 = n2
  · subst hn
    go_enter Try.func31, Try.ntmps31
    go_wp2
    go_loopw [13] (fun i wr => ∃ k : Nat, k ≤ n1 ∧ i = .int .i64 k ∧ l1.take k = l2.take k ∧ ∃ m, wr = w.drewN m) (fun i _ => n1 - (intOf i).toNat)
    case atStart => exact ⟨0, Nat.zero_le _, rfl, rfl, 0, rfl⟩
    case round =>
      obtain ⟨k, hk, rfl, ht, m, rfl⟩ := hrel
      by_cases hlt : k < n1
      · obtain ⟨b1, o1, rfl, _, hc1⟩ := h1.cell hlt
        obtain ⟨b2, o2, rfl, _, hc2⟩ := h2.cell hlt
        have hl1 : k < l1.length := by have := h1.len; omega
        have hl2 : k < l2.length := by have := h2.len; omega
        have t1 : l1.take (k + 1) = l1.take k ++ [l1.getD k 0] := take_snoc l1 k hl1
        have t2 : l2.take (k + 1) = l2.take k ++ [l2.getD k 0] := take_snoc l2 k hl2
        have g1 := at8_lo l1 k
        have g2 := at8_hi l1 k
        have g3 := at8_lo l2 k
        have g4 := at8_hi l2 k
        by_cases hx : at8 l1 k = at8 l2 k
        · have hb : (at8 l1 k != at8 l2 k) = false := by rw [hx]; simp
          have ht' := Lib.hid (show l1.take (k + 1) = l2.take (k + 1) by rw [t1, t2, ht, at8_inj hx])
          clear ht hx t1 t2
          go_wp2
          go_quiet (fail)
          go_wp2
          go_roundw
          case rel => exact ⟨k + 1, by omega, by go_num, ht'.out, _, rfl⟩
          case measure => simp [intOf]; omega
        · have hb : (at8 l1 k != at8 l2 k) = true := bne_iff_ne.2 hx
          have hs := Lib.hid (show sameB l1 l2 = false by
            unfold sameB
            apply decide_eq_false
            intro h
            exact hx (by rw [h]))
          clear ht hx t1 t2
          go_wp2
          go_quiet (fail)
          go_wp2
          go_ret
          exact ⟨by rw [hs.out]; rfl, _, World.drewN_drewN _ _ _⟩
      · have hk' : k = n1 := by omega
        have hs := Lib.hid (show sameB l1 l2 = true by
          unfold sameB
          apply decide_eq_true
          have e1 := h1.len
          have e2 := h2.len
          rw [hk', List.take_of_length_le (by omega), List.take_of_length_le (by omega)] at ht
          exact ht)
        clear hk' ht
        go_wp2
        go_ret
        exact ⟨by rw [hs.out]; rfl, _, rfl⟩
  · have hne : ((n1 : Int) != (n2 : Int)) = true := by rw [bne_iff_ne]; omega
    have hl1 := h1.len
    have hl2 := h2.len
    have hs : sameB l1 l2 = false := by
      unfold sameB
      apply decide_eq_false
      intro h
      subst h
      omega
    rw [hs]
    clear hl1 hl2 hs
    go_enter Try.func31, Try.ntmps31
    go_wp2
    go_ret
    exact ⟨rfl, 0, rfl⟩
end Go.Proofs.Ythoenmggjbojoaa
