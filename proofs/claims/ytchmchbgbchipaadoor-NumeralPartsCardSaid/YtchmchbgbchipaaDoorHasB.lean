/-
  slices.Index, slices.Contains at bytes.
-/
import Derived.Test.YtchmchbgbchipaaDoorRows
import Derived.Test.YtchmchbgbchipaaDoorW
import Derived.LoopTactic
import Derived.Deep.QuietTactic
import Derived.BigQuiet
import Derived.Lib.Hide
namespace Go.Proofs.YtchmchbgbchipaaDoor
open Go.RowKit

/-- The place of a byte, or -1. -/
def idxB : List UInt8 → UInt8 → Int
  | [], _ => -1
  | c :: r, x => if c = x then 0 else if idxB r x < 0 then -1 else idxB r x + 1
theorem idxB_cons (c : UInt8) (r : List UInt8) (x : UInt8) : idxB (c :: r) x = if c = x then 0 else if idxB r x < 0 then -1 else idxB r x + 1 := rfl
theorem idxB_lo : ∀ (l : List UInt8) (x : UInt8), -1 ≤ idxB l x
  | [], _ => by simp [idxB]
  | c :: r, x => by
    have := idxB_lo r x
    rw [idxB_cons]
    split
    · omega
    · split <;> omega
theorem idxB_has : ∀ (l : List UInt8) (x : UInt8), decide (0 ≤ idxB l x) = l.contains x
  | [], _ => rfl
  | c :: r, x => by
    have ih := idxB_has r x
    rw [List.contains_cons, ← ih]
    rw [idxB_cons]
    by_cases h : c = x
    · rw [if_pos h, h]; simp
    · have h2 : (x == c) = false := by rw [beq_eq_false_iff_ne]; exact fun e => h e.symm
      rw [if_neg h, h2, Bool.false_or]
      split
      · rw [decide_eq_false (by omega), decide_eq_false (by omega)]
      · rw [decide_eq_true (by omega), decide_eq_true (by omega)]
theorem idxB_at : ∀ (l : List UInt8) (x : UInt8) (k : Nat), k < l.length → l.getD k 0 = x → (∀ j, j < k → l.getD j 0 ≠ x) → idxB l x = k
  | [], _, k, h, _, _ => by simp at h
  | c :: r, x, 0, _, h, _ => by rw [idxB_cons, if_pos (by simpa using h)]; rfl
  | c :: r, x, k + 1, h, h1, h2 => by
    have ih := idxB_at r x k (by simpa using h) (by simpa using h1) (fun j hj => by simpa using h2 (j + 1) (by omega))
    have h0 : c ≠ x := by simpa using h2 0 (by omega)
    rw [idxB_cons]
    rw [if_neg h0, ih, if_neg (by omega)]
    omega
theorem idxB_none : ∀ (l : List UInt8) (x : UInt8), (∀ j, j < l.length → l.getD j 0 ≠ x) → idxB l x = -1
  | [], _, _ => rfl
  | c :: r, x, h => by
    have ih := idxB_none r x (fun j hj => by simpa using h (j + 1) (by simp; omega))
    have h0 : c ≠ x := by simpa using h 0 (by simp)
    rw [idxB_cons]
    rw [if_neg h0, ih]; rfl
set_option maxHeartbeats 1000000 in
theorem indexB_any (A : Option Addr) (n c B : Nat) (l : List UInt8) (x : UInt8) (w : World) (h : Bytes w B A n l) (hn : n ≤ maxLen) :
    Calls Tryd.prog 27 #[.slice A n c, .int .u8 (x.toNat : Int)] w fun e w' => e = .returned (.int .i64 (idxB l x)) ∧ w' = w := by
  unfold maxLen at hn
  have Hl := Lib.hid h.len
  go_enter Tryd.func27, Tryd.ntmps27
  go_wp2
  go_loop [8] (fun i => ∃ k : Nat, k ≤ n ∧ i = .int .i64 k ∧ Hid (∀ j, j < k → l.getD j 0 ≠ x)) (fun i => n - (intOf i).toNat)
  case atStart => exact ⟨0, Nat.zero_le _, rfl, Lib.hid (fun j hj => by omega)⟩
  case round =>
    obtain ⟨k, hk, rfl, Hk⟩ := hrel
    by_cases hlt : k < n
    · obtain ⟨b1, o1, rfl, _, hc⟩ := h.cell hlt
      by_cases hx : l.getD k 0 = x
      · have HE := Lib.hid (idxB_at l x k (by rw [Hl.out]; exact hlt) hx Hk.out)
        have hb : ((x.toNat : Int) == at8 l k) = true := by rw [beq_iff_eq]; unfold at8; rw [hx]
        clear hx Hk
        generalize at8 l k = y at *
        generalize (x.toNat : Int) = z at *
        go_wp2
        go_ret
        exact ⟨by rw [HE.out]; rfl, rfl⟩
      · have hb : ((x.toNat : Int) == at8 l k) = false := by
          rw [beq_eq_false_iff_ne]
          unfold at8
          intro e
          exact hx (UInt8.toNat_inj.1 (by omega))
        have HK : Hid (∀ j, j < k + 1 → l.getD j 0 ≠ x) := Lib.hid (fun j hj => by
          rcases Nat.lt_or_ge j k with h1 | h1
          · exact Hk.out j h1
          · obtain rfl : j = k := by omega
            exact hx)
        clear hx Hk
        generalize at8 l k = y at *
        generalize (x.toNat : Int) = z at *
        go_wp2
        go_round
        case rel => exact ⟨k + 1, by omega, by go_num, HK⟩
        case measure => simp [intOf]; omega
    · have HE := Lib.hid (idxB_none l x (fun j hj => Hk.out j (by rw [Hl.out] at hj; omega)))
      clear Hk
      go_wp2
      go_ret
      exact ⟨by rw [HE.out]; rfl, rfl⟩
theorem containsB_any (A : Option Addr) (n c B : Nat) (l : List UInt8) (x : UInt8) (w : World) (h : Bytes w B A n l) (hn : n ≤ maxLen) (b : Bool) (hb : l.contains x = b) :
    Calls Tryd.prog 19 #[.slice A n c, .int .u8 (x.toNat : Int)] w fun e w' => e = .returned (.bool b) ∧ w' = w := by
  have hi := indexB_any A n c B l x w h hn
  have hd : decide (0 ≤ idxB l x) = b := by rw [idxB_has]; exact hb
  generalize idxB l x = y at *
  generalize (x.toNat : Int) = z at *
  clear hb
  go_enter Tryd.func19, Tryd.ntmps19
  go_wp2_with fail
  refine hi.mono ?_
  rintro e w1 ⟨rfl, rfl⟩
  go_wp2
  go_ret
  exact ⟨rfl, rfl⟩
end Go.Proofs.YtchmchbgbchipaaDoor
