/-
  Layer 1: bytes.Equal; no proper front of a code point's bytes is read.
-/
import Derived.Test.YtialgpkighjffaaDoorUtfV
namespace Go.Proofs.YtialgpkighjffaaDoor
open Go.RowKit

theorem ofL_beq (l m : List UInt8) : ((ofL l).toList == (ofL m).toList) = sameB l m := by
  unfold sameB
  rw [ByteArray.toList_eq, ByteArray.toList_eq, ofL_toList, ofL_toList, Bool.eq_iff_iff, beq_iff_eq, decide_eq_true_iff]
set_option maxHeartbeats 1000000 in
theorem bytesEqual_any (A1 A2 : Option Addr) (n1 c1 n2 c2 : Nat) (l1 l2 : List UInt8) (B1 B2 : Nat) (w : World) (h1 : Bytes w B1 A1 n1 l1) (h2 : Bytes w B2 A2 n2 l2) (b : Bool) (hb : sameB l1 l2 = b) :
    Calls Tryd.prog 26 #[.slice A1 n1 c1, .slice A2 n2 c2] w fun e w' => e = .returned (.bool b) ∧ w' = w := by
  have k1 := run_bytes_string (P := Tryd.prog) Tryd.underlying22 Tryd.underlying5 Tryd.underlying9 w A1 n1 c1 B1 l1 h1
  have k2 := run_bytes_string (P := Tryd.prog) Tryd.underlying22 Tryd.underlying5 Tryd.underlying9 w A2 n2 c2 B2 l2 h2
  have hbe : ((ofL l1).toList == (ofL l2).toList) = b := (ofL_beq l1 l2).trans hb
  generalize ofL l1 = s1 at *
  generalize ofL l2 = s2 at *
  clear h1 h2 hb
  go_enter Tryd.func26, Tryd.ntmps26
  go_wp2
  go_ret
  exact ⟨rfl, rfl⟩
/-- No proper front of a code point's bytes is read. -/
theorem dec_front (c j : Nat) (h : isCp c = true) (hj : j < (encL c).length) : decL ((encL c).take j) = (0, 0) := by
  apply dec_zero
  rcases Nat.eq_zero_or_pos (decL ((encL c).take j)).2 with h0 | h0
  · exact h0
  · exfalso
    obtain ⟨hc', r, e, hn⟩ := enc_dec (l := (encL c).take j) (c := (decL ((encL c).take j)).1) (n := (decL ((encL c).take j)).2) rfl (by omega)
    generalize (decL ((encL c).take j)).1 = c' at *
    have e2 : encL c = encL c' ++ (r ++ (encL c).drop j) := by
      rw [← List.append_assoc, ← e, List.take_append_drop]
    have d1 := dec_enc c h []
    rw [List.append_nil] at d1
    have d2 := dec_enc c' hc' (r ++ (encL c).drop j)
    rw [← e2, d1] at d2
    injection d2 with d3 d4
    have e3 := congrArg List.length e
    rw [List.length_append, List.length_take] at e3
    omega
end Go.Proofs.YtialgpkighjffaaDoor
