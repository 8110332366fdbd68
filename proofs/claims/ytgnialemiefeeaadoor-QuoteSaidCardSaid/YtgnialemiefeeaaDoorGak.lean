import Derived.Test.YtgnialemiefeeaaDoorGai
import Derived.Test.YtgnialemiefeeaaDoorGad
import Derived.Test.YtgnialemiefeeaaDoorGaj
import Derived.Deep.CutBlock
import Derived.Deep.DeepCutAuto
import Derived.Test.YtgnialemiefeeaaDoorGah
import Derived.Test.YtgnialemiefeeaaDoorRows
import Derived.Test.YtgnialemiefeeaaDoorGaa
/-
  Layer 2, the reference: Begin.
-/
namespace Go.Proofs.YtgnialemiefeeaaDoor
open Go.RowKit

theorem ret_pair {a b c d : Int} (h : a = c) (h2 : b = d) : Ending.returned (.tuple #[.int .i64 a, .int .i64 b]) = .returned (.tuple #[.int .i64 c, .int .i64 d]) := by rw [h, h2]
theorem four_u {l : List UInt8} {n : Nat} (h : fourL l = some n) : at0 l 0 = 92 ∧ at0 l 1 = 117 := by
  unfold fourL at h
  split at h
  · rename_i h1; exact h1.2
  · cases h
theorem esc_nopair {l : List UInt8} {n : Nat} (h : fourL l = some n) (h4 : 55296 ≤ n) (h5 : n < 56320) (h6 : ∀ m, fourL (l.drop 6) = some m → m < 56320 ∨ 57343 < m) : escL l = (0, 0) := by
  have := fourL_len h
  have hu := (four_u h).2
  unfold escL; rw [if_neg (by omega), hu, h]
  show (if n < 55296 ∨ 57343 < n then (n, 6) else if 56320 ≤ n then (0, 0) else _) = _
  rw [if_neg (by omega), if_neg (by omega)]
  cases h7 : fourL (l.drop 6) with
  | none => rfl
  | some m => simp only; rw [if_neg (by have := h6 m h7; omega)]
theorem esc_low {l : List UInt8} (hA : ¬ (2 ≤ l.length ∧ letL (at0 l 1) ≠ none)) (h : ∀ n, fourL l = some n → 56320 ≤ n ∧ n ≤ 57343) : escL l = (0, 0) := by
  unfold escL
  by_cases h2 : l.length < 2
  · exact if_pos h2
  · rw [if_neg h2]
    cases h3 : letL (at0 l 1) with
    | some c => exact absurd ⟨by omega, by rw [h3]; nofun⟩ hA
    | none =>
      simp only
      cases h4 : fourL l with
      | none => rfl
      | some n =>
        have := h n h4
        simp only
        rw [if_neg (by omega), if_pos (by omega)]
theorem beg_ref {l : List UInt8} (hE : at0 l 0 = 92 → escL l = (0, 0)) : begL l = if (decL l).2 = 0 ∨ (decL l).1 < 32 ∨ (decL l).1 = 34 ∨ (decL l).1 = 92 then (0, 0) else decL l := by
  by_cases h : (decL l).2 = 0
  · rw [if_pos (.inl h)]
    by_cases h1 : at0 l 0 = 92
    · rw [beg_esc h1, hE h1]
    · unfold begL; rw [if_neg h1, if_pos (.inl h)]
  · obtain ⟨hc, r, e, e2⟩ := enc_dec (l := l) (c := (decL l).1) (n := (decL l).2) rfl h
    have h3 := enc_at0 (decL l).1 hc r
    rw [← e] at h3
    by_cases h1 : at0 l 0 = 92
    · rw [beg_esc h1, hE h1, if_pos (by omega)]
    · by_cases h2 : at0 l 0 < 32 ∨ at0 l 0 = 34
      · rw [beg_bad h2, if_pos (by omega)]
      · rw [beg_dec h1 (by omega) (by omega), if_neg (by omega)]

set_option maxRecDepth 20000 in
set_option maxHeartbeats 2000000 in
theorem refBegin_any (A : Option Addr) (m c0 B : Nat) (l : List UInt8) (w : World) (hl : Bytes w B A m l) (hB : B ≤ w.heap.size) (hm : m ≤ maxLen) (hmc : m ≤ c0) :
    Calls Tryd.prog 14 #[.slice A m c0] w fun e w' => e = .returned (pairV (begL l)) ∧ Below w.heap.size w w' := by
  unfold maxLen at hm
  have hlen := Lib.hid hl.len
  by_cases hA : 2 ≤ m ∧ at0 l 0 = 92 ∧ letL (at0 l 1) ≠ none
  · obtain ⟨hm2, ha0, hlet⟩ := hA
    obtain ⟨c, hc⟩ : ∃ c, letL (at0 l 1) = some c := by
      cases h : letL (at0 l 1) with
      | none => exact absurd h hlet
      | some c => exact ⟨c, rfl⟩
    have HR := Lib.hid (show begL l = (c, 2) by rw [beg_esc ha0, esc_letter (by rw [hlen.out]; exact hm2) hc])
    have hcall := fun W => letter_any (at0 l 1) W
    rw [hc] at hcall
    simp only [optI] at hcall
    obtain ⟨b, off, rfl, hbB, hc0⟩ := hl.cell (k := 0) (by omega)
    obtain ⟨b', off', e, _, hc1⟩ := hl.cell (k := 1) (by omega)
    injection e with e
    injection e with e1 e2
    subst e1; subst e2
    rw [show at8 l 0 = ((at0 l 0 : Nat) : Int) from rfl, Nat.add_zero, ha0] at hc0
    rw [show at8 l 1 = ((at0 l 1 : Nat) : Int) from rfl] at hc1
    have hkeep : ∀ W, Below w.heap.size w W → W.cell? ⟨b, off + 1, none⟩ = some (.int .u8 ((at0 l 1 : Nat) : Int)) := fun W hb => (hb.cell (p := ⟨b, off + 1, none⟩) (show b < w.heap.size by omega)).trans hc1
    have h1 : (1 : Int) < m := by omega
    have hc00 : (0 : Int) ≤ c := by omega
    clear hl hc hlet ha0 hmc
    generalize at0 l 1 = y at *
    go_enter Tryd.func14, Tryd.ntmps14
    go_wp2_with fail
    refine (hcall _).mono ?_
    rintro e w1 ⟨rfl, hb1⟩
    have hk1 := hkeep w1 hb1
    clear hc0 hc1 hkeep
    go_wp2_with fail
    refine (hcall _).mono ?_
    rintro e w2 ⟨rfl, hb2⟩
    go_wp2
    go_ret2
    exact ⟨by rw [HR.out]; rfl, bel_next hb1 hb2⟩
  · go_enter Tryd.func14, Tryd.ntmps14
    go_upto_region 1 with fail
    go_cut [23] (fun s wx => s = .bool false ∧ Below w.heap.size w wx)
    case first =>
      by_cases hm2 : m < 2
      · have h1 : ¬ (1 : Int) < m := by omega
        go_wp2_with fail
        go_meet
        case rel => exact ⟨rfl, Below.refl _ _⟩
      · have h1 : (1 : Int) < m := by omega
        obtain ⟨b, off, rfl, hbB, hc0⟩ := hl.cell (k := 0) (by omega)
        obtain ⟨b', off', e, _, hc1⟩ := hl.cell (k := 1) (by omega)
        injection e with e
        injection e with e1 e2
        subst e1; subst e2
        rw [show at8 l 0 = ((at0 l 0 : Nat) : Int) from rfl, Nat.add_zero] at hc0
        rw [show at8 l 1 = ((at0 l 1 : Nat) : Int) from rfl] at hc1
        by_cases ha0 : at0 l 0 = 92
        · have hlet : letL (at0 l 1) = none := by
            cases h : letL (at0 l 1) with
            | none => rfl
            | some c => exact absurd ⟨by omega, ha0, by rw [h]; nofun⟩ hA
          have hcall := fun W => letter_any (at0 l 1) W
          rw [hlet] at hcall
          simp only [optI] at hcall
          rw [ha0] at hc0
          clear hl hlet ha0 hA
          generalize at0 l 1 = y at *
          go_wp2_with fail
          refine (hcall _).mono ?_
          rintro e w1 ⟨rfl, hb1⟩
          go_wp2_with fail
          go_meet
          case rel => exact ⟨rfl, hb1⟩
        · have hx : (((at0 l 0 : Nat) : Int) == 92) = false := by rw [beq_eq_false_iff_ne]; omega
          clear hl hA ha0
          generalize at0 l 0 = x at *
          go_wp2_with fail
          go_meet
          case rel => exact ⟨rfl, Below.refl _ _⟩
    case rest =>
      obtain ⟨rfl, hcut⟩ := hcut
      have hlc := hl.below (hcut.mono hB)
      have hBc := Nat.le_trans hB hcut.size
      have hfour := four_any A m c0 B l wc hlc (by unfold maxLen; omega)
      by_cases h3 : ∃ n, fourL l = some n ∧ (n < 55296 ∨ 57343 < n)
      · obtain ⟨n, hn, hn2⟩ := h3
        have hu := (four_u hn)
        have HR := Lib.hid (show begL l = (n, 6) by rw [beg_esc hu.1, esc_four (by rw [hu.2]; rfl) hn hn2])
        have hcp := isCp_of n (by have := fourL_lt hn; omega) hn2
        have his := fun W => is_any (n : Int) W
        rw [hcp] at his
        rw [hn] at hfour
        simp only [optI] at hfour
        clear hn hn2 hu hcp hA hl hlc
        go_wp2_with fail
        refine hfour.mono ?_
        rintro e w1 ⟨rfl, rfl⟩
        go_wp2_with fail
        refine (his _).mono ?_
        rintro e w1 ⟨rfl, rfl⟩
        go_wp2
        go_ret2
        exact ⟨by rw [HR.out]; rfl, hcut⟩
      · by_cases h4 : ∃ n, fourL l = some n ∧ 55296 ≤ n ∧ n < 56320
        · obtain ⟨n, hn, hn1, hn2⟩ := h4
          have hu := (four_u hn)
          have hl6 := fourL_len hn
          rw [hlen.out] at hl6
          have hcp : isCp (n : Int) = false := by
            cases h : isCp (n : Int) with
            | false => rfl
            | true => have := (isCp_iff _).1 h; omega
          have his := fun W => is_any (n : Int) W
          rw [hcp] at his
          have h6 := hlc.cut (k := 6) hl6 hmc
          have hf2 := fun A' (h : Bytes wc B A' (m - 6) (l.drop 6)) => four_any A' (m - 6) (c0 - 6) B (l.drop 6) wc h (by unfold maxLen; omega)
          have k1 : (55296 : Int) ≤ n := by omega
          have k2 : (n : Int) ≤ 56319 := by omega
          have hm6 : (6 : Int) ≤ m := by omega
          have hmc' : (m : Int) ≤ c0 := by omega
          by_cases h5 : ∃ q, fourL (l.drop 6) = some q ∧ 56320 ≤ q ∧ q ≤ 57343
          · obtain ⟨q, hq, hq1, hq2⟩ := h5
            have hl12 := fourL_len hq
            rw [List.length_drop, hlen.out] at hl12
            have HR := Lib.hid (show begL l = (65536 + (n - 55296) * 1024 + (q - 56320), 12) by rw [beg_esc hu.1, esc_pair (by rw [hu.2]; rfl) hn hq hn1 hn2 hq1 hq2])
            rw [if_neg (by omega)] at h6
            have hf3 := hf2 _ h6
            rw [hq] at hf3
            rw [hn] at hfour
            simp only [optI] at hfour hf3
            have k3 : (56320 : Int) ≤ q := by omega
            have k4 : (q : Int) ≤ 57343 := by omega
            have hne : ¬ c0 = 6 := by omega
            have hne' : ¬ (c0 : Int) = 6 := by omega
            obtain ⟨b, off, rfl, hbB, hc0⟩ := hl.cell (k := 0) (by omega)
            rw [Option.map_some, addr_add] at hf3
            have Hn := Lib.hid (show 55296 ≤ n ∧ 56320 ≤ q by omega)
            clear hn hn1 hn2 hu hcp hA hl hlc h3 hq hq1 hq2 hl12 h6 hf2 hc0
            go_wp2_with fail
            refine hfour.mono ?_
            rintro e w1 ⟨rfl, rfl⟩
            go_wp2_with fail
            refine (his _).mono ?_
            rintro e w1 ⟨rfl, rfl⟩
            go_wp2_with fail
            refine hf3.mono ?_
            rintro e w1 ⟨rfl, rfl⟩
            go_wp2
            go_ret2
            exact ⟨by rw [HR.out]; exact ret_pair (by have := Hn.out; omega) rfl, hcut⟩
          · have hlow : ∀ q, fourL (l.drop 6) = some q → q < 56320 ∨ 57343 < q := fun q hq => by
              by_cases h : q < 56320 ∨ 57343 < q
              · exact h
              · exact absurd ⟨q, hq, by omega, by omega⟩ h5
            have HR := Lib.hid (show begL l = (0, 0) by rw [beg_esc hu.1, esc_nopair hn hn1 hn2 hlow])
            have hf4 : ∃ z : Int, (z < 56320 ∨ 57343 < z) ∧ ∀ A', Bytes wc B A' (m - 6) (l.drop 6) → Calls Tryd.prog 35 #[.slice A' (m - 6) (c0 - 6)] wc fun e w' => e = .returned (.int .i64 z) ∧ w' = wc := by
              refine ⟨optI (fourL (l.drop 6)), ?_, hf2⟩
              cases h : fourL (l.drop 6) with
              | none => left; decide
              | some q => have := hlow q h; simp only [optI]; omega
            obtain ⟨z, hz, hf4⟩ := hf4
            rw [hn] at hfour
            simp only [optI] at hfour
            obtain ⟨b, off, rfl, hbB, hc0⟩ := hl.cell (k := 0) (by omega)
            clear hn hn1 hn2 hu hcp hA hl hlc h3 hc0 hf2 h5 hlow
            by_cases hk : c0 = 6
            · subst hk
              obtain rfl : m = 6 := by omega
              rw [if_pos rfl] at h6
              have hf3 := hf4 _ h6
              clear hf4 h6 hl6 hm6 hmc' hm hmc
              rcases hz with hz | hz
              · have k3 : ((56320 : Int) ≤ z) = False := by simp; omega
                clear hz
                go_wp2_with fail
                refine hfour.mono ?_
                rintro e w1 ⟨rfl, rfl⟩
                go_wp2_with fail
                refine (his _).mono ?_
                rintro e w1 ⟨rfl, rfl⟩
                go_wp2_with fail
                refine hf3.mono ?_
                rintro e w1 ⟨rfl, rfl⟩
                go_wp2
                go_ret2
                exact ⟨by rw [HR.out]; rfl, hcut⟩
              · have k3 : (56320 : Int) ≤ z := by omega
                have k4 : (z ≤ 57343) = False := by simp; omega
                clear hz
                go_wp2_with fail
                refine hfour.mono ?_
                rintro e w1 ⟨rfl, rfl⟩
                go_wp2_with fail
                refine (his _).mono ?_
                rintro e w1 ⟨rfl, rfl⟩
                go_wp2_with fail
                refine hf3.mono ?_
                rintro e w1 ⟨rfl, rfl⟩
                go_wp2
                go_ret2
                exact ⟨by rw [HR.out]; rfl, hcut⟩
            · rw [if_neg hk] at h6
              have hf3 := hf4 _ h6
              rw [Option.map_some, addr_add] at hf3
              have hk' : ¬ (c0 : Int) = 6 := by omega
              clear hf4 h6
              rcases hz with hz | hz
              · have k3 : ((56320 : Int) ≤ z) = False := by simp; omega
                clear hz
                go_wp2_with fail
                refine hfour.mono ?_
                rintro e w1 ⟨rfl, rfl⟩
                go_wp2_with fail
                refine (his _).mono ?_
                rintro e w1 ⟨rfl, rfl⟩
                go_wp2_with fail
                refine hf3.mono ?_
                rintro e w1 ⟨rfl, rfl⟩
                go_wp2
                go_ret2
                exact ⟨by rw [HR.out]; rfl, hcut⟩
              · have k3 : (56320 : Int) ≤ z := by omega
                have k4 : (z ≤ 57343) = False := by simp; omega
                clear hz
                go_wp2_with fail
                refine hfour.mono ?_
                rintro e w1 ⟨rfl, rfl⟩
                go_wp2_with fail
                refine (his _).mono ?_
                rintro e w1 ⟨rfl, rfl⟩
                go_wp2_with fail
                refine hf3.mono ?_
                rintro e w1 ⟨rfl, rfl⟩
                go_wp2
                go_ret2
                exact ⟨by rw [HR.out]; rfl, hcut⟩
        · have hlow : ∀ n, fourL l = some n → 56320 ≤ n ∧ n ≤ 57343 := fun n hn => by
            by_cases h : n < 55296 ∨ 57343 < n
            · exact absurd ⟨n, hn, h⟩ h3
            · by_cases h' : n < 56320
              · exact absurd ⟨n, hn, by omega, h'⟩ h4
              · omega
          have HR := Lib.hid (beg_ref (l := l) (fun ha => esc_low (fun h => hA ⟨by rw [← hlen.out]; exact h.1, ha, h.2⟩) hlow))
          obtain ⟨z, hz, hz2, hfour⟩ : ∃ z : Int, isCp z = false ∧ (z < 55296 ∨ 56319 < z) ∧ Calls Tryd.prog 35 #[.slice A m c0] wc fun e w' => e = .returned (.int .i64 z) ∧ w' = wc := by
            refine ⟨optI (fourL l), ?_, ?_, hfour⟩
            · cases h : fourL l with
              | none => rfl
              | some n =>
                have := hlow n h
                simp only [optI]
                cases h' : isCp (n : Int) with
                | false => rfl
                | true => have := (isCp_iff _).1 h'; omega
            · cases h : fourL l with
              | none => left; decide
              | some n => have := hlow n h; simp only [optI]; omega
          have his := fun W => is_any z W
          rw [hz] at his
          have hbeg := begin_any A m c0 B l wc hlc hBc (by unfold maxLen; omega)
          clear hz hlow h3 h4 hA hl hlc
          generalize decL l = d at *
          obtain ⟨x, n⟩ := d
          simp only at HR hbeg
          have Hz2 := Lib.hid hz2
          clear hz2
          by_cases c1 : n = 0
          · subst c1
            have HR2 := Lib.hid (HR.out.trans (if_pos (.inl rfl)))
            clear HR
            rcases Hz2.out with hz | hz
            · have k1 : ((55296 : Int) ≤ z) = False := by simp; omega
              clear hz
              go_wp2_with fail
              refine hfour.mono ?_
              rintro e w1 ⟨rfl, rfl⟩
              go_wp2_with fail
              refine (his _).mono ?_
              rintro e w1 ⟨rfl, rfl⟩
              go_wp2_with fail
              refine hbeg.mono ?_
              rintro e w1 ⟨rfl, hb1⟩
              go_wp2
              go_ret2
              exact ⟨by rw [HR2.out]; rfl, bel_next hcut hb1⟩
            · have k1 : (55296 : Int) ≤ z := by omega
              have k2 : (z ≤ 56319) = False := by simp; omega
              clear hz
              go_wp2_with fail
              refine hfour.mono ?_
              rintro e w1 ⟨rfl, rfl⟩
              go_wp2_with fail
              refine (his _).mono ?_
              rintro e w1 ⟨rfl, rfl⟩
              go_wp2_with fail
              refine hbeg.mono ?_
              rintro e w1 ⟨rfl, hb1⟩
              go_wp2
              go_ret2
              exact ⟨by rw [HR2.out]; rfl, bel_next hcut hb1⟩
          · have j0 : ((n : Int) == 0) = false := by rw [beq_eq_false_iff_ne]; omega
            by_cases c2 : x < 32
            · have HR2 := Lib.hid (HR.out.trans (if_pos (.inr (.inl c2))))
              have j1 : ((x : Int) < 32) = True := by simp; omega
              clear HR c1 c2
              rcases Hz2.out with hz | hz
              · have k1 : ((55296 : Int) ≤ z) = False := by simp; omega
                clear hz
                go_wp2_with fail
                refine hfour.mono ?_
                rintro e w1 ⟨rfl, rfl⟩
                go_wp2_with fail
                refine (his _).mono ?_
                rintro e w1 ⟨rfl, rfl⟩
                go_wp2_with fail
                refine hbeg.mono ?_
                rintro e w1 ⟨rfl, hb1⟩
                go_wp2
                go_ret2
                exact ⟨by rw [HR2.out]; rfl, bel_next hcut hb1⟩
              · have k1 : (55296 : Int) ≤ z := by omega
                have k2 : (z ≤ 56319) = False := by simp; omega
                clear hz
                go_wp2_with fail
                refine hfour.mono ?_
                rintro e w1 ⟨rfl, rfl⟩
                go_wp2_with fail
                refine (his _).mono ?_
                rintro e w1 ⟨rfl, rfl⟩
                go_wp2_with fail
                refine hbeg.mono ?_
                rintro e w1 ⟨rfl, hb1⟩
                go_wp2
                go_ret2
                exact ⟨by rw [HR2.out]; rfl, bel_next hcut hb1⟩
            · have j1 : ((x : Int) < 32) = False := by simp; omega
              by_cases c3 : x = 34
              · have HR2 := Lib.hid (HR.out.trans (if_pos (.inr (.inr (.inl c3)))))
                subst c3
                clear HR c1 c2 j1
                rcases Hz2.out with hz | hz
                · have k1 : ((55296 : Int) ≤ z) = False := by simp; omega
                  clear hz
                  go_wp2_with fail
                  refine hfour.mono ?_
                  rintro e w1 ⟨rfl, rfl⟩
                  go_wp2_with fail
                  refine (his _).mono ?_
                  rintro e w1 ⟨rfl, rfl⟩
                  go_wp2_with fail
                  refine hbeg.mono ?_
                  rintro e w1 ⟨rfl, hb1⟩
                  go_wp2
                  go_ret2
                  exact ⟨by rw [HR2.out]; rfl, bel_next hcut hb1⟩
                · have k1 : (55296 : Int) ≤ z := by omega
                  have k2 : (z ≤ 56319) = False := by simp; omega
                  clear hz
                  go_wp2_with fail
                  refine hfour.mono ?_
                  rintro e w1 ⟨rfl, rfl⟩
                  go_wp2_with fail
                  refine (his _).mono ?_
                  rintro e w1 ⟨rfl, rfl⟩
                  go_wp2_with fail
                  refine hbeg.mono ?_
                  rintro e w1 ⟨rfl, hb1⟩
                  go_wp2
                  go_ret2
                  exact ⟨by rw [HR2.out]; rfl, bel_next hcut hb1⟩
              · have j2 : ((x : Int) == 34) = false := by rw [beq_eq_false_iff_ne]; omega
                by_cases c4 : x = 92
                · have HR2 := Lib.hid (HR.out.trans (if_pos (.inr (.inr (.inr c4)))))
                  subst c4
                  clear HR c1 c2 c3 j1 j2
                  rcases Hz2.out with hz | hz
                  · have k1 : ((55296 : Int) ≤ z) = False := by simp; omega
                    clear hz
                    go_wp2_with fail
                    refine hfour.mono ?_
                    rintro e w1 ⟨rfl, rfl⟩
                    go_wp2_with fail
                    refine (his _).mono ?_
                    rintro e w1 ⟨rfl, rfl⟩
                    go_wp2_with fail
                    refine hbeg.mono ?_
                    rintro e w1 ⟨rfl, hb1⟩
                    go_wp2
                    go_ret2
                    exact ⟨by rw [HR2.out]; rfl, bel_next hcut hb1⟩
                  · have k1 : (55296 : Int) ≤ z := by omega
                    have k2 : (z ≤ 56319) = False := by simp; omega
                    clear hz
                    go_wp2_with fail
                    refine hfour.mono ?_
                    rintro e w1 ⟨rfl, rfl⟩
                    go_wp2_with fail
                    refine (his _).mono ?_
                    rintro e w1 ⟨rfl, rfl⟩
                    go_wp2_with fail
                    refine hbeg.mono ?_
                    rintro e w1 ⟨rfl, hb1⟩
                    go_wp2
                    go_ret2
                    exact ⟨by rw [HR2.out]; rfl, bel_next hcut hb1⟩
                · have j3 : ((x : Int) == 92) = false := by rw [beq_eq_false_iff_ne]; omega
                  have HR2 := Lib.hid (HR.out.trans (if_neg (by omega)))
                  clear HR c1 c2 c3 c4
                  rcases Hz2.out with hz | hz
                  · have k1 : ((55296 : Int) ≤ z) = False := by simp; omega
                    clear hz
                    go_wp2_with fail
                    refine hfour.mono ?_
                    rintro e w1 ⟨rfl, rfl⟩
                    go_wp2_with fail
                    refine (his _).mono ?_
                    rintro e w1 ⟨rfl, rfl⟩
                    go_wp2_with fail
                    refine hbeg.mono ?_
                    rintro e w1 ⟨rfl, hb1⟩
                    go_wp2
                    go_ret2
                    exact ⟨by rw [HR2.out]; rfl, bel_next hcut hb1⟩
                  · have k1 : (55296 : Int) ≤ z := by omega
                    have k2 : (z ≤ 56319) = False := by simp; omega
                    clear hz
                    go_wp2_with fail
                    refine hfour.mono ?_
                    rintro e w1 ⟨rfl, rfl⟩
                    go_wp2_with fail
                    refine (his _).mono ?_
                    rintro e w1 ⟨rfl, rfl⟩
                    go_wp2_with fail
                    refine hbeg.mono ?_
                    rintro e w1 ⟨rfl, hb1⟩
                    go_wp2
                    go_ret2
                    exact ⟨by rw [HR2.out]; rfl, bel_next hcut hb1⟩
end Go.Proofs.YtgnialemiefeeaaDoor
/-
  Layer 2, the reference: Read.
-/
namespace Go.Proofs.YtgnialemiefeeaaDoor
open Go.RowKit

/-- What the reference's Read tells. -/
def rdL (l : List UInt8) (p : Nat) : List Nat × Nat × Int :=
  if l.length ≤ p then ([], p, 6) else if at0 l p ≠ 34 then ([], p, 7) else
  let q := p + 1 + (sgsL (l.drop (p + 1))).2
  if q < l.length ∧ at0 l q = 34 then ((sgsL (l.drop (p + 1))).1, q + 1, 0) else ([], q, faultN l q)
theorem rd_is {l : List UInt8} {p q : Nat} {cps : List Nat} (h : p < l.length) (h2 : at0 l p = 34) (hp : p + 1 ≤ q) (hs : sgsL (l.drop (p + 1)) = (cps, q - (p + 1))) :
    rdL l p = if q < l.length ∧ at0 l q = 34 then (cps, q + 1, 0) else ([], q, faultN l q) := by
  have e : p + 1 + (q - (p + 1)) = q := by omega
  unfold rdL
  rw [if_neg (by omega), if_neg (by omega), hs]
  simp only [e]
def GivesRd (l : List UInt8) (p : Nat) (W : World) (e : Ending) (w' : World) : Prop :=
  ∃ A n c, w'.ownsRow W.heap.size 3 1 (.slice A n c) n ((nats (rdL l p).1).map iv) ∧ Below W.heap.size W w' ∧
    e = .returned (.tuple #[.slice A n c, .int .i64 ((rdL l p).2.1 : Int), .int .i64 (rdL l p).2.2])
theorem gives_none {l : List UInt8} {p q : Nat} {r : Int} {W w' : World} (h : rdL l p = ([], q, r)) (hb : Below W.heap.size W w') : GivesRd l p W (.returned (.tuple #[.slice none 0 0, .int .i64 (q : Int), .int .i64 r])) w' :=
  ⟨none, 0, 0, by rw [h]; exact World.ownsRow_nil _ _ _ _, hb, by rw [h]⟩

set_option maxRecDepth 20000 in
set_option maxHeartbeats 2000000 in
theorem refRead_any (A : Option Addr) (m c0 B p : Nat) (l : List UInt8) (w : World) (hl : Bytes w B A m l) (hB : B ≤ w.heap.size) (hm : m ≤ 100000) (hmc : m ≤ c0) (hc : c0 ≤ maxLen) (hp : p ≤ m) :
    Calls Tryd.prog 17 #[.slice A m c0, .int .i64 (p : Int)] w (GivesRd l p w) := by
  unfold maxLen at hc
  have hlen := Lib.hid hl.len
  by_cases he : p = m
  · subst he
    have HR := Lib.hid (show rdL l p = ([], p, 6) from if_pos (by rw [hlen.out]; exact Nat.le_refl _))
    clear hl
    go_enter Tryd.func17, Tryd.ntmps17
    go_wp2
    go_ret3
    exact gives_none HR.out (Below.refl _ _)
  · have hp2 : ((p : Int) == (m : Int)) = false := by rw [beq_eq_false_iff_ne]; omega
    have hp3 : (p : Int) < (m : Int) := by omega
    have hp4 : (0 : Int) ≤ p := by omega
    obtain ⟨b, off, rfl, hbB, hc0⟩ := hl.cell (k := p) (by omega)
    rw [show at8 l p = ((at0 l p : Nat) : Int) from rfl] at hc0
    by_cases h3 : at0 l p = 34
    · rw [h3] at hc0
      obtain ⟨i0, hi, hz0, hz1, hz2⟩ := i64_info
      have Hp := Lib.hid (show p < l.length by rw [hlen.out]; omega)
      have H3 := Lib.hid h3
      have hmc' : (m : Int) ≤ c0 := by omega
      clear h3
      go_enter Tryd.func17, Tryd.ntmps17
      go_wp2
      clear hc0
      go_loopw [1, 7] (fun a o wr => ∃ (q : Nat) (pre : List Nat) (A' : Option Addr) (n' c' : Nat), a = .int .i64 q ∧ o = .slice A' n' c' ∧ p + 1 ≤ q ∧ q ≤ m ∧ n' ≤ q ∧ wr.ownsRow w.heap.size 3 1 (.slice A' n' c') n' ((nats pre).map iv) ∧ Hid (Sofar l (p + 1) q pre) ∧ Below w.heap.size w wr) (fun a _ _ => m - (intOf a).toNat)
      case atStart => exact ⟨p + 1, [], none, 0, 0, by go_num, rfl, by omega, by omega, by omega, World.ownsRow_nil _ _ _ _, Lib.hid (Sofar.start (by have := Hp.out; omega)), Below.refl _ _⟩
      case round =>
        obtain ⟨q, pre, A', n', c', rfl, rfl, hq1, hqm, hnq, hown, Hs, hbr⟩ := hrel
        have hsw := hbr.size
        have q0 : (0 : Int) ≤ q := by omega
        have hlr := hl.below (hbr.mono hB)
        have hqc : (q : Int) ≤ c0 := by omega
        have hqm' : (q : Int) ≤ m := by omega
        by_cases hlt : q < m
        · have hlt' : (q : Int) < m := by omega
          have hne : ¬ c0 = q := by omega
          have hne' : ¬ (c0 : Int) = q := by omega
          obtain ⟨b', off', e, _, hcq⟩ := hlr.cell (k := q) hlt
          injection e with e
          injection e with e1 e2
          subst e1; subst e2
          rw [show at8 l q = ((at0 l q : Nat) : Int) from rfl] at hcq
          by_cases h4 : at0 l q = 34
          · have hbz : (begL (l.drop q)).2 = 0 := by rw [beg_bad (.inr (by rw [at0_drop]; exact h4))]
            have HR := Lib.hid (show rdL l p = (pre, q + 1, 0) by rw [rd_is Hp.out H3.out hq1 (Hs.out.done hbz), if_pos ⟨by rw [hlen.out]; exact hlt, h4⟩])
            rw [h4] at hcq
            clear h4 hbz
            go_wp2_with fail
            go_ret3
            exact ⟨A', n', c', by rw [HR.out]; exact hown, hbr, by rw [HR.out]; rfl⟩
          · have h4' : (((at0 l q : Nat) : Int) == 34) = false := by rw [beq_eq_false_iff_ne]; omega
            have hcut := hlr.cut (k := q) (cap := c0) (by omega) hmc
            rw [if_neg hne, Option.map_some, addr_add] at hcut
            have hbeg := refBegin_any _ (m - q) (c0 - q) B (l.drop q) wr hcut (by omega) (by unfold maxLen; omega) (by omega)
            unfold pairV at hbeg
            have hle := beg_le (l.drop q)
            rw [List.length_drop, hlen.out] at hle
            by_cases h5 : (begL (l.drop q)).2 = 0
            · have HR := Lib.hid (show rdL l p = ([], q, faultN l q) by rw [rd_is Hp.out H3.out hq1 (Hs.out.done h5), if_neg (fun h => h4 h.2)])
              have hwr := fun (W : World) (hb : Below wr.heap.size wr W) => wrong_any (some ⟨b, off, none⟩) m c0 B q l W (hlr.below (hb.mono (by omega))) (by unfold maxLen; omega) hqm
              rw [beg_zero h5] at hbeg
              clear h4 h5 hle
              generalize at0 l q = y at *
              generalize faultN l q = z at *
              go_wp2_with fail
              refine hbeg.mono ?_
              rintro e w1 ⟨rfl, hb1⟩
              go_wp2_with fail
              refine (hwr _ hb1).mono ?_
              rintro e w2 ⟨rfl, rfl⟩
              go_wp2
              go_ret3
              exact gives_none HR.out (bel_next hbr hb1)
            · have HS := Lib.hid (Hs.out.step h5)
              have h5' : (((begL (l.drop q)).2 : Int) == 0) = false := by rw [beq_eq_false_iff_ne]; omega
              have h5p : 0 < (begL (l.drop q)).2 := by omega
              clear h4 h5
              generalize at0 l q = y at *
              generalize (begL (l.drop q)).1 = c at *
              generalize (begL (l.drop q)).2 = k at *
              go_wp2_with fail
              refine hbeg.mono ?_
              rintro e w1 ⟨rfl, hb1⟩
              have hown1 := own_below hown hb1
              have hs1 := hb1.size
              have hnew : Shows (w1.alloc (.cells #[.int .i64 (c : Int)] 3)) (w1.heap.size + 1) 1 (some ⟨w1.heap.size, 0, none⟩) 1 [.int .i64 (c : Int)] := ints_new w1 [(c : Int)] _ _ _ rfl
              go_wp2_with (at_builtin; refine wpList_append_shows _ rfl _ _ 35 rfl w.heap.size 3 i0 (.int .i64 0) 1 8 Tryd.underlying35 hi hz0 hz1 hz2 rfl (by decide) _ _ _ rfl (hown1.alloc _) (w1.heap.size + 1) _ 1 1 [.int .i64 (c : Int)] rfl hnew (by simp [Value.oneCell']) (by unfold maxLen; omega) (by omega) (by simp; omega) ?_; intro A7 c7 w7 hown7 hgrow7 hb7)
              go_roundw
              case rel => exact ⟨q + k, pre ++ [c], A7, n' + 1, c7, by go_num, rfl, by omega, by omega, by omega, by rw [nats_snoc, List.map_append]; exact hown7, HS, ((bel_next hbr hb1).alloc (by omega) _).trans hb7⟩
              case measure => simp [intOf]; omega
        · have hqe : q = m := by omega
          subst hqe
          have hd : l.drop q = [] := List.drop_of_length_le (by rw [hlen.out]; exact Nat.le_refl _)
          have hbz : (begL (l.drop q)).2 = 0 := by rw [hd]; rfl
          have HR := Lib.hid (show rdL l p = ([], q, faultN l q) by rw [rd_is Hp.out H3.out hq1 (Hs.out.done hbz), if_neg (fun h => by have := hlen.out; omega)])
          have hwr := fun (W : World) (hb : Below wr.heap.size wr W) => wrong_any (some ⟨b, off, none⟩) q c0 B q l W (hlr.below (hb.mono (by omega))) (by unfold maxLen; omega) hqm
          have hcut := hlr.cut (k := q) (cap := c0) (by omega) hmc
          rw [Option.map_some, addr_add, Nat.sub_self] at hcut
          clear hlt hd
          generalize faultN l q = z at *
          by_cases hk : c0 = q
          · rw [if_pos hk] at hcut
            have hbeg := refBegin_any _ 0 (c0 - q) B (l.drop q) wr hcut (by omega) (by unfold maxLen; omega) (by omega)
            subst hk
            rw [beg_zero hbz] at hbeg
            unfold pairV at hbeg
            rw [Nat.sub_self] at hbeg
            clear hbz
            go_wp2_with fail
            refine hbeg.mono ?_
            rintro e w1 ⟨rfl, hb1⟩
            go_wp2_with fail
            refine (hwr _ hb1).mono ?_
            rintro e w2 ⟨rfl, rfl⟩
            go_wp2
            go_ret3
            exact gives_none HR.out (bel_next hbr hb1)
          · rw [if_neg hk] at hcut
            have hne' : ¬ (c0 : Int) = q := by omega
            have hbeg := refBegin_any _ 0 (c0 - q) B (l.drop q) wr hcut (by omega) (by unfold maxLen; omega) (by omega)
            rw [beg_zero hbz] at hbeg
            unfold pairV at hbeg
            clear hbz
            go_wp2_with fail
            refine hbeg.mono ?_
            rintro e w1 ⟨rfl, hb1⟩
            go_wp2_with fail
            refine (hwr _ hb1).mono ?_
            rintro e w2 ⟨rfl, rfl⟩
            go_wp2
            go_ret3
            exact gives_none HR.out (bel_next hbr hb1)
    · have HR := Lib.hid (show rdL l p = ([], p, 7) by unfold rdL; rw [if_neg (by rw [hlen.out]; omega), if_pos h3])
      have h3' : (((at0 l p : Nat) : Int) == 34) = false := by rw [beq_eq_false_iff_ne]; omega
      clear hl h3
      generalize at0 l p = y at *
      go_enter Tryd.func17, Tryd.ntmps17
      go_wp2
      go_ret3
      exact gives_none HR.out (Below.refl _ _)
end Go.Proofs.YtgnialemiefeeaaDoor
namespace Go.Proofs.YtgnialemiefeeaaDoor
open Go.RowKit

theorem bytes_nil {w : World} {B n : Nat} {l : List UInt8} (h : Bytes w B none n l) : n = 0 ∧ l = [] := by
  have hn0 : n = 0 := by
    rcases Nat.eq_zero_or_pos n with h0 | h0
    · exact h0
    · obtain ⟨_, _, h, _⟩ := h.2 h0
      cases h
  exact ⟨hn0, List.eq_nil_of_length_eq_zero (by rw [h.len, hn0])⟩

set_option maxRecDepth 20000 in
theorem u8_info : ∃ i, Tryd.prog.info? 5 = some i ∧ i.zero = some (.int .u8 0) ∧ i.size = 1 ∧ i.bytes = 1 := ⟨Tryd.t5, by kernel_rfl, by kernel_rfl, by kernel_rfl, by kernel_rfl⟩

set_option maxRecDepth 20000 in
set_option maxHeartbeats 1000000 in
theorem clone_any (A : Option Addr) (n c : Nat) (l : List UInt8) (B : Nat) (w : World) (h : Bytes w B A n l) (hA : A = none → c = 0) (hB : B ≤ w.heap.size) (hn : n ≤ 140737488355328) :
    Calls Tryd.prog 30 #[.slice A n c] w (GivesBytes 5 l w) := by
  have hnil := fun (W : World) (a : Option Addr) (n c : Nat) => Lib.run_eql_slice_nil (P := Tryd.prog) W 22 5 a n c 0 0 Tryd.underlying22
  rcases A with _ | a
  · obtain rfl := hA rfl
    obtain ⟨rfl, rfl⟩ := bytes_nil h
    go_enter Tryd.func30, Tryd.ntmps30
    go_wp2
    go_ret
    exact ⟨none, 0, 0, rfl, World.ownsRow_nil _ _ _ _, Below.refl _ _⟩
  · obtain ⟨i0, hi, hz0, hz1, hz2⟩ := u8_info
    have hown := World.ownsRow_made (base := w.heap.size) (e := 5) (size := 1) w #[] 0 (Nat.le_refl _) (Nat.zero_le _) rfl
    have hs := (h.more hB).alloc (Nat.le_refl _) (.cells #[] 5)
    go_enter Tryd.func30, Tryd.ntmps30
    go_wp2_with (at_builtin; refine wpList_append_shows _ rfl _ _ _ rfl w.heap.size 5 i0 (.int .u8 0) 1 1 Tryd.underlying22 hi hz0 hz1 hz2 rfl (by decide) _ _ _ rfl hown w.heap.size _ _ _ (l.map bv) rfl hs (bv_one l) ?c3 ?c4 ?c5 ?_)
    case c3 => unfold maxLen; omega
    case c4 => omega
    case c5 => simp
    · intro A' c' w1 hown' _ hbel
      go_wp2
      go_ret
      exact ⟨A', n, c', by simp, hown', ((Below.refl _ _).alloc (Nat.le_refl _) _).trans hbel⟩
end Go.Proofs.YtgnialemiefeeaaDoor
