/-
  bytes.Equal, bytes.HasPrefix.
-/
import Derived.Test.YthoenmggjbojoaaEq
import Derived.Test.YthoenmggjbojoaaStr
namespace Go.Proofs.Ythoenmggjbojoaa
open Go.RowKit

theorem bofL_beq (l m : List UInt8) : ((ofL l).toList == (ofL m).toList) = sameB l m := by
  unfold sameB
  rw [ByteArray.toList_eq, ByteArray.toList_eq, ofL_toList, ofL_toList, Bool.eq_iff_iff, beq_iff_eq, decide_eq_true_iff]
set_option maxRecDepth 20000 in
set_option maxHeartbeats 1000000 in
theorem bequal_any (A1 A2 : Option Addr) (n1 c1 n2 c2 : Nat) (l1 l2 : List UInt8) (B1 B2 : Nat) (w : World) (h1 : Bytes w B1 A1 n1 l1) (h2 : Bytes w B2 A2 n2 l2) (b : Bool) (hb : sameB l1 l2 = b) :
    Calls Try.prog 22 #[.slice A1 n1 c1, .slice A2 n2 c2] w fun e w' => e = .returned (.bool b) ∧ w = w' := by
  have k1 := run_bytes_string (P := Try.prog) Try.underlying22 Try.underlying5 Try.underlying9 w A1 n1 c1 B1 l1 h1
  have k2 := run_bytes_string (P := Try.prog) Try.underlying22 Try.underlying5 Try.underlying9 w A2 n2 c2 B2 l2 h2
  have hbe : ((ofL l1).toList == (ofL l2).toList) = b := (bofL_beq l1 l2).trans hb
  generalize ofL l1 = s1 at *
  generalize ofL l2 = s2 at *
  clear h1 h2 hb
  go_enter Try.func22, Try.ntmps22
  go_wp2
  go_ret
  exact ⟨rfl, rfl⟩
set_option maxRecDepth 20000 in
set_option maxHeartbeats 1000000 in
theorem hasPrefix_any (A1 A2 : Option Addr) (n1 c1 n2 c2 : Nat) (l1 l2 : List UInt8) (B1 B2 : Nat) (w : World) (h1 : Bytes w B1 A1 n1 l1) (h2 : Bytes w B2 A2 n2 l2) (hc : n1 ≤ c1) (b : Bool) (hb : (decide (n2 ≤ n1) && sameB (l1.take n2) l2) = b) :
    Calls Try.prog 24 #[.slice A1 n1 c1, .slice A2 n2 c2] w fun e w' => e = .returned (.bool b) ∧ w = w' := by
  by_cases hle : n2 ≤ n1
  · rw [decide_eq_true hle, Bool.true_and] at hb
    have he := bequal_any A1 A2 n2 c1 n2 c2 (l1.take n2) l2 B1 B2 w (h1.first hle) h2 b hb
    have i0 : (0 : Int) ≤ (n2 : Int) := by omega
    have i1 : (n2 : Int) ≤ (c1 : Int) := by omega
    have i2 : ((n2 : Int) ≤ (n1 : Int)) = True := by simp; omega
    clear hle h1 h2 hb hc
    go_enter Try.func24, Try.ntmps24
    go_wp2_with fail
    refine he.mono ?_
    rintro e w' ⟨rfl, rfl⟩
    clear he
    go_wp2
    all_goals
      go_ret
      exact ⟨rfl, rfl⟩
  · rw [decide_eq_false hle, Bool.false_and] at hb
    subst hb
    have i2 : ((n2 : Int) ≤ (n1 : Int)) = False := by simp; omega
    clear hle h1 h2 hc
    go_enter Try.func24, Try.ntmps24
    go_wp2
    all_goals
      go_ret
      exact ⟨rfl, rfl⟩
theorem prefix_yes {l1 l2 : List UInt8} {n1 n2 : Nat} (h1 : l1.length = n1) (h2 : l2.length = n2) (h : l2 <+: l1) : (decide (n2 ≤ n1) && sameB (l1.take n2) l2) = true := by
  have hl := h.length_le
  unfold sameB
  rw [decide_eq_true (by omega), decide_eq_true (by rw [← h2]; exact (List.prefix_iff_eq_take.1 h).symm)]
  rfl
end Go.Proofs.Ythoenmggjbojoaa
