/-
  The walk of NumeralGrows.
-/
import Derived.Test.YtchmchbgbchipaaDoorNumW
namespace Go.Proofs.YtchmchbgbchipaaDoor
open Go.RowKit

theorem digits_mono : ∀ (k u v : Nat), v ≤ k → u ≤ v → Lib.nDigits u ≤ Lib.nDigits v
  | k, u, v, hk, h => by
    by_cases hu : u < 10
    · rw [Lib.nDigits_small hu]
      by_cases hv : v < 10
      · rw [Lib.nDigits_small hv]; exact Nat.le_refl _
      · rw [Lib.nDigits_big hv]; omega
    · match k, hk with
      | 0, hk => omega
      | k + 1, hk =>
        rw [Lib.nDigits_big hu, Lib.nDigits_big (u := v) (by omega)]
        have := digits_mono k (u / 10) (v / 10) (by omega) (Nat.div_le_div_right h)
        omega
theorem itoa_mono (u v : Nat) (h : u ≤ v) : (Lib.itoa (u : Int)).length ≤ (Lib.itoa (v : Int)).length := by
  rw [Lib.itoa_nonneg, Lib.itoa_nonneg, Lib.decDigits_length, Lib.decDigits_length]
  exact digits_mono v u v (Nat.le_refl _) h

set_option maxRecDepth 20000 in
set_option maxHeartbeats 2000000 in
theorem numeralGrows_walk (w : World) (a : Int) (ha : (Lit.int .i64 a).wf = true) (b : Int) (hb : (Lit.int .i64 b).wf = true) (hv : NVars w) :
    Calls Tryd.prog 7 #[.int .i64 a, .int .i64 b] w fun e w' => e = .returned (.bool true) ∧ Below w.heap.size w w' := by
  have ha := i64_wf ha
  have hb := i64_wf hb
  unfold I64 at ha hb
  obtain ⟨u, Hu, hu⟩ : ∃ u : Nat, Hid (max a 0 = (u : Int)) ∧ u ≤ 9223372036854775807 := ⟨(max a 0).toNat, Lib.hid (by omega), by omega⟩
  obtain ⟨v, Hv, hv'⟩ : ∃ v : Nat, Hid (max b 0 = (v : Int)) ∧ v ≤ 9223372036854775807 := ⟨(max b 0).toNat, Lib.hid (by omega), by omega⟩
  clear ha hb
  have hsu := fun W hW => size_any (u : Int) ⟨by omega, by omega⟩ W hW
  have hsv := fun W hW => size_any (v : Int) ⟨by omega, by omega⟩ W hW
  have hlen := fun h => itoa_mono u v h
  have h21 := Lib.itoa_length_le (u : Int) (by omega) (by omega)
  have hpu := fun W hW => print_any (u : Int) ⟨by omega, by omega⟩ W hW
  have hpn := fun W hW => print_any (-(u : Int)) ⟨by omega, by omega⟩ W hW
  have hsn := fun W hW => size_any (-(u : Int)) ⟨by omega, by omega⟩ W hW
  have hu64 : -9223372036854775808 ≤ -(u : Int) := by omega
  have huu : (u : Int) ≤ 9223372036854775807 := by omega
  have HN : Hid (1 ≤ u → ((ofL (Lib.itoa (-(u : Int)))).toList == ((⟨#[45]⟩ : ByteArray) ++ ofL (Lib.itoa (u : Int))).toList) = true ∧ (Lib.itoa (-(u : Int))).length = (Lib.itoa (u : Int)).length + 1 ∧ (ofL (Lib.itoa (u : Int))).size ≤ 21) := Lib.hid (by
    intro h1
    have hi := Lib.itoa_neg u h1
    have hj := Lib.itoa_nonneg u
    refine ⟨?_, ?_, ?_⟩
    · rw [show (⟨#[45]⟩ : ByteArray) = ofL [45] from rfl, ofL_append, hi, hj]
      simp
    · rw [hi, hj]; rfl
    · rw [ofL_size]; exact h21)
  generalize (Lib.itoa (v : Int)).length = zv at *
  generalize (Lib.itoa (u : Int)).length = zu at *
  generalize (Lib.itoa (-(u : Int))).length = zn at *
  generalize ofL (Lib.itoa (u : Int)) = S at *
  generalize ofL (Lib.itoa (-(u : Int))) = T at *
  have m1 := Hu.out
  have m2 := Hv.out
  clear Hu Hv hu hv'
  have key : ∀ w1, Below w.heap.size w w1 → NVars w1 → True := fun _ _ _ => trivial
  clear key
  go_enter Tryd.func7, Tryd.ntmps7
  go_wp2_with fail
  refine (wakes_any w hv).mono ?_
  rintro e w1 ⟨rfl, hb1⟩
  have v1 := hv.next hb1
  go_wp2_with fail
  refine (hsu _ v1).mono ?_
  rintro e w2 ⟨rfl, hb2⟩
  have v2 := v1.next hb2
  go_wp2_with fail
  refine (hsv _ v2).mono ?_
  rintro e w3 ⟨rfl, hb3⟩
  have v3 := v2.next hb3
  have hb03 := bel_next hb1 (bel_next hb2 hb3)
  clear hsv hb1 hb2 hb3 v1 v2 hv m1 m2
  have HH : Hid ((zv < zu ∧ ¬ u ≤ v) ∨ zu ≤ zv) := Lib.hid (by
    rcases Nat.lt_or_ge zv zu with h | h
    · exact .inl ⟨h, fun h2 => by have := hlen h2; omega⟩
    · exact .inr h)
  clear hlen
  rcases HH.out with ⟨h1, h2⟩ | h1
  · have i1 : (zv : Int) < (zu : Int) := by omega
    have i2 : ¬ (u : Int) ≤ (v : Int) := by omega
    clear HH h1
    have h0 : ¬ u = 0 := by omega
    clear h2
    · obtain ⟨n1, n2, n3⟩ := HN.out (by omega)
      have hne : ((u : Int) == 0) = false := by rw [beq_eq_false_iff_ne]; omega
      have e2 : (zn : Int) = (zu : Int) + 1 := by omega
      clear n2 h0 HN
      rw [e2] at hsn
      clear e2
      go_wp2_with fail
      refine (hsn _ v3).mono ?_
      rintro e w4 ⟨rfl, hb4⟩
      have v4 := v3.next hb4
      have hsu' := hsu _ v4
      go_wp2_with fail
      refine hsu'.mono ?_
      rintro e w5 ⟨rfl, hb5⟩
      have v5 := v4.next hb5
      go_wp2_with fail
      refine (hpn _ v5).mono ?_
      rintro e w6 ⟨rfl, hb6⟩
      have v6 := v5.next hb6
      go_wp2_with fail
      refine (hpu _ v6).mono ?_
      rintro e w7 ⟨rfl, hb7⟩
      go_wp2
      go_ret
      exact ⟨rfl, bel_next hb03 (bel_next hb4 (bel_next hb5 (bel_next hb6 hb7)))⟩
  · have i1 : ¬ (zv : Int) < (zu : Int) := by omega
    clear HH
    by_cases h0 : u = 0
    · subst h0
      go_wp2_with fail
      go_ret
      exact ⟨rfl, hb03⟩
    · obtain ⟨n1, n2, n3⟩ := HN.out (by omega)
      have hne : ((u : Int) == 0) = false := by rw [beq_eq_false_iff_ne]; omega
      have e2 : (zn : Int) = (zu : Int) + 1 := by omega
      clear n2 h0 HN
      rw [e2] at hsn
      clear e2
      go_wp2_with fail
      refine (hsn _ v3).mono ?_
      rintro e w4 ⟨rfl, hb4⟩
      have v4 := v3.next hb4
      have hsu' := hsu _ v4
      go_wp2_with fail
      refine hsu'.mono ?_
      rintro e w5 ⟨rfl, hb5⟩
      have v5 := v4.next hb5
      go_wp2_with fail
      refine (hpn _ v5).mono ?_
      rintro e w6 ⟨rfl, hb6⟩
      have v6 := v5.next hb6
      go_wp2_with fail
      refine (hpu _ v6).mono ?_
      rintro e w7 ⟨rfl, hb7⟩
      go_wp2
      go_ret
      exact ⟨rfl, bel_next hb03 (bel_next hb4 (bel_next hb5 (bel_next hb6 hb7)))⟩
end Go.Proofs.YtchmchbgbchipaaDoor
