/-
  The reference of layer 19: the text of a revision.
-/
import Derived.Test.YtedoajiapicpnaaDoorDocP
namespace Go.Proofs.YtedoajiapicpnaaDoor
open Go.RowKit
attribute [local go_sem ↓] Go.wp_at_zero Go.wp_at_succ

theorem ofL_append (l m : List UInt8) : ofL l ++ ofL m = ofL (l ++ m) := by
  apply ByteArray.ext
  simp [ofL]

set_option maxRecDepth 20000 in
set_option maxHeartbeats 1000000 in
theorem refDecimal_last (n : Nat) (w : World) (h : n < 10) :
    Calls Tryd.prog 40 #[.int .u32 (n : Int)] w fun e w' => e = .returned (.string (ofL [hx n])) ∧ Below w.heap.size w w' := by
  have hs := hx_low n h
  have hcv := run_bytes_string (P := Tryd.prog) Tryd.underlying29 Tryd.underlying5 Tryd.underlying9 (w.alloc (.cells #[.int .u8 ((hx n).toNat : Int)] 5)) (some ⟨w.heap.size, 0, none⟩) 1 1 _ [hx n] (bytes_new w [hx n] _ _ _ rfl)
  rw [hs] at hcv
  obtain ⟨str, Hs⟩ : ∃ str, Hid (ofL [hx n] = str) := ⟨_, Lib.hid rfl⟩
  rw [Hs.out] at hcv
  clear hs
  go_enter Tryd.func40, Tryd.ntmps40
  go_wp2
  go_ret
  exact ⟨by rw [Hs.out]; rfl, (Below.refl _ _).alloc (Nat.le_refl _) _⟩

set_option maxHeartbeats 1000000 in
theorem refDecimal_any : ∀ (f n : Nat) (w : World), n < 10 ^ (f + 1) → n < 4294967296 → f ≤ 20 →
    Calls Tryd.prog 40 #[.int .u32 (n : Int)] w fun e w' => e = .returned (.string (ofL (decF f n))) ∧ Below w.heap.size w w' := by
  intro f
  induction f with
  | zero =>
    intro n w hf10 hn hf
    rw [decF_small 0 n (by simpa using hf10)]
    exact refDecimal_last n w (by simpa using hf10)
  | succ f ih =>
    intro n w hf10 hn hf
    by_cases h10 : n < 10
    · rw [decF_small _ n h10]
      exact refDecimal_last n w h10
    · have hr : decF (f + 1) n = decF f (n / 10) ++ [hx (n % 10)] := by rw [decF, if_neg h10]
      rw [hr, ← ofL_append]
      have hlt : n / 10 < 10 ^ (f + 1) := by rw [Nat.div_lt_iff_lt_mul (by omega), ← Nat.pow_succ]; exact hf10
      have h2 := ih (n / 10) w hlt (by omega) (by omega)
      have z1 : (ofL (decF f (n / 10))).size ≤ 40 := by
        have := decF_length f (n / 10)
        rw [ofL_size]
        omega
      have z2 : (ofL [hx (n % 10)]).size = 1 := ofL_size _
      clear ih hr hlt hf10
      generalize ofL (decF f (n / 10)) = s1 at *
      go_enter Tryd.func40, Tryd.ntmps40
      go_wp2_with fail
      rw [show (n : Int) / 10 = ((n / 10 : Nat) : Int) by omega]
      refine h2.mono ?_
      rintro e w1 ⟨rfl, hb1⟩
      go_wp2_with fail
      rw [show (n : Int) % 10 = ((n % 10 : Nat) : Int) by omega]
      refine (refDecimal_last (n % 10) _ (by omega)).mono ?_
      rintro e w2 ⟨rfl, hb2⟩
      have hbz := hb1.trans (hb2.mono hb1.size)
      obtain ⟨s2, H2, z3⟩ : ∃ s2, Hid (ofL [hx (n % 10)] = s2) ∧ s2.size = 1 := ⟨_, Lib.hid rfl, z2⟩
      rw [H2.out]
      clear h2 hb1 hb2 z2
      go_wp2
      go_ret
      exact ⟨by rw [H2.out]; rfl, hbz⟩
end Go.Proofs.YtedoajiapicpnaaDoor
