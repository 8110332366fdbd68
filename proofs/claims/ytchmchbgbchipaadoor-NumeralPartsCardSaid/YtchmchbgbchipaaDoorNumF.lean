/-
  Layer 3: the reference's is, run, End.
-/
import Derived.Test.YtchmchbgbchipaaDoorNumE
import Derived.Test.YtchmchbgbchipaaDoorNumQ
import Derived.Deep.DeepCutAuto
import Derived.Test.YtchmchbgbchipaaDoorSb
namespace Go.Proofs.YtchmchbgbchipaaDoor
open Go.RowKit

set_option maxRecDepth 20000 in
set_option maxHeartbeats 2000000 in
theorem is_any (A : Option Addr) (n c B p : Nat) (l set : List UInt8) (S : ByteArray) (hS : S.data.toList = set) (hS2 : S.size ≤ 100) (w : World) (hl : Bytes w B A n l) (hp : p ≤ 1000000) :
    Calls Tryd.prog 23 #[.slice A n c, .int .i64 (p : Int), .string S] w fun e w' => e = .returned (.bool (tk set l p)) ∧ ∃ k, w' = w.drewN k := by
  have Hl := Lib.hid hl.len
  by_cases hpn : n ≤ p
  · have hT := tk_end (set := set) (l := l) (p := p) (by rw [Hl.out]; omega)
    rw [hT]
    have hge : (n : Int) ≤ (p : Int) := by omega
    clear hT
    go_enter Tryd.func23, Tryd.ntmps23
    go_wp2
    go_ret
    exact ⟨rfl, 0, rfl⟩
  · have hlt : p < n := by omega
    have hne : ¬ (n : Int) ≤ (p : Int) := by omega
    have i0 : (0 : Int) ≤ (p : Int) := by omega
    have i1 : (p : Int) < (n : Int) := by omega
    have HS := Lib.hid hS
    have HSz := Lib.hid (str_size S set hS)
    obtain ⟨b1, o1, rfl, _, hcell⟩ := hl.cell hlt
    clear hpn hS
    go_enter Tryd.func23, Tryd.ntmps23
    go_wp2
    go_loopw [7] (fun i wr => ∃ k : Nat, k ≤ S.size ∧ i = .int .i64 k ∧ Hid (∀ j, j < k → j < set.length → set.getD j 0 ≠ l.getD p 0) ∧ ∃ m, wr = w.drewN m) (fun i _ => S.size - (intOf i).toNat)
    case atStart => exact ⟨0, Nat.zero_le _, rfl, Lib.hid (fun j hj => by omega), 0, rfl⟩
    case round =>
      obtain ⟨k, hk, rfl, Hk, m, rfl⟩ := hrel
      by_cases hks : k < S.size
      · have hs := str_at8 S k hks
        rw [HS.out] at hs
        have hkl : k < set.length := by rw [← HSz.out]; exact hks
        by_cases hx : at8 set k = at8 l p
        · have hT : tk set l p = true := by
            unfold tk
            rw [decide_eq_true (by rw [Hl.out]; exact hlt), Bool.true_and]
            exact contains_at set _ k hkl (at8_inj hx)
          have HT := Lib.hid hT
          have hxe : (at8 set k == at8 l p) = true := beq_iff_eq.2 hx
          clear hT hx hkl
          generalize at8 l p = x at *
          generalize at8 set k = y at *
          go_wp2
          go_quiet (fail)
          go_wp2
          go_ret
          exact ⟨by rw [HT.out]; rfl, _, by first | exact rfl | exact World.drewN_drewN _ _ _⟩
        · have Hx := Lib.hid hx
          have hxe : (at8 set k == at8 l p) = false := beq_eq_false_iff_ne.2 hx
          have Hk' : Hid (∀ j, j < k + 1 → j < set.length → set.getD j 0 ≠ l.getD p 0) := Lib.hid (by
            intro j hj hjl
            rcases Nat.lt_or_ge j k with h1 | h1
            · exact Hk.out j h1 hjl
            · obtain rfl : j = k := by omega
              intro e
              exact Hx.out (by unfold at8; rw [e]))
          clear hx hkl
          generalize at8 l p = x at *
          generalize at8 set k = y at *
          go_wp2
          go_quiet (fail)
          go_wp2
          go_roundw
          case rel => exact ⟨k + 1, by omega, by go_num, Hk', _, by first | exact rfl | exact World.drewN_drewN _ _ _⟩
          case measure => simp [intOf]; omega
      · have hkS : k = S.size := by omega
        have hT : tk set l p = false := by
          unfold tk
          rw [contains_take set _ k (by rw [← HSz.out]; omega) Hk.out, Bool.and_false]
        have HT := Lib.hid hT
        clear hT hkS
        go_wp2
        go_ret
        exact ⟨by rw [HT.out]; rfl, _, by first | exact rfl | exact World.drewN_drewN _ _ _⟩
set_option maxRecDepth 20000 in
theorem run_any (A : Option Addr) (n c B p : Nat) (l : List UInt8) (w : World) (hl : Bytes w B A n l) (hp : p ≤ n + 1) (hn : n ≤ 100000) :
    Calls Tryd.prog 24 #[.slice A n c, .int .i64 (p : Int)] w fun e w' => e = .returned (.int .i64 (runP l p : Int)) ∧ ∃ k, w' = w.drewN k := by
  have Hl := Lib.hid hl.len
  go_enter Tryd.func24, Tryd.ntmps24
  go_wp2_with fail
  go_loopw [1] (fun i wr => ∃ k : Nat, k ≤ n + 1 ∧ i = .int .i64 k ∧ Hid (runP l p = runP l k) ∧ ∃ m, wr = w.drewN m) (fun i _ => n + 1 - (intOf i).toNat)
  case atStart => exact ⟨p, hp, rfl, Lib.hid rfl, 0, rfl⟩
  case round =>
    obtain ⟨k, hk, rfl, Hk, m, rfl⟩ := hrel
    have hi := is_any A n c B k l dset ⟨#[48, 49, 50, 51, 52, 53, 54, 55, 56, 57]⟩ rfl (by decide) (w.drewN m) (hl.drewN m) (by omega)
    cases ht : tk dset l k
    · rw [ht] at hi
      have HE := Lib.hid (Hk.out.trans (run_no ht))
      clear ht Hk
      go_wp2_with fail
      refine hi.mono ?_
      rintro e w1 ⟨rfl, k1, rfl⟩
      go_wp2
      go_ret
      exact ⟨by rw [HE.out]; rfl, _, by first | exact rfl | exact World.drewN_drewN _ _ _⟩
    · rw [ht] at hi
      have hlt := tk_lt ht
      rw [Hl.out] at hlt
      have HE := Lib.hid (Hk.out.trans (run_yes ht))
      clear ht Hk
      go_wp2_with fail
      refine hi.mono ?_
      rintro e w1 ⟨rfl, k1, rfl⟩
      go_wp2_with fail
      go_roundw
      case rel => exact ⟨k + 1, by omega, by go_num, HE, _, by first | exact rfl | exact World.drewN_drewN _ _ _⟩
      case measure => simp [intOf]; omega

/-- What the reference's End tells. -/
def endR (l : List UInt8) (p : Nat) : Value :=
  if (scanP l p).2.2 = true then .tuple #[.int .i64 ((scanP l p).1 : Int), .bool (!(scanP l p).2.1), .bool true] else .tuple #[.int .i64 ((scanP l p).1 : Int), .bool false, .bool false]
theorem endR_yes {l : List UInt8} {p q : Nat} {part : Bool} (h : scanP l p = (q, part, true)) : endR l p = .tuple #[.int .i64 (q : Int), .bool (!part), .bool true] := by unfold endR; rw [h]; rfl
theorem endR_no {l : List UInt8} {p q : Nat} {part : Bool} (h : scanP l p = (q, part, false)) : endR l p = .tuple #[.int .i64 (q : Int), .bool false, .bool false] := by unfold endR; rw [h]; rfl
/-- A part of digits as the reference asks it. -/
theorem dig_no {l : List UInt8} {p : Nat} (h : runP l p = p) : digP l p = (p, false) := by unfold digP; rw [h]; simp
theorem dig_yes {l : List UInt8} {p : Nat} (h : runP l p ≠ p) : digP l p = (runP l p, true) := by unfold digP; simp [h]
/-- The scan behind the whole part. -/
def restP (l : List UInt8) (q : Nat) : Nat × Bool × Bool :=
  if (fracP l q).2.2 = false then ((fracP l q).1, true, false) else ((expoP l (fracP l q).1).1, (fracP l q).2.1 || (expoP l (fracP l q).1).2.1, (expoP l (fracP l q).1).2.2)
theorem scan_rest {l : List UInt8} {p : Nat} (h : (wholeP l (signP l p)).2 = true) : scanP l p = restP l (wholeP l (signP l p)).1 := by
  unfold scanP restP
  rw [if_neg (by rw [h]; simp)]
theorem rest_point {l : List UInt8} {q : Nat} (h : tk [46] l q = true) (h2 : runP l (q + 1) = q + 1) : restP l q = (q + 1, true, false) := by
  have : fracP l q = (q + 1, true, false) := by unfold fracP; rw [h, if_pos rfl, dig_no h2]
  unfold restP
  rw [this]; rfl
theorem frac_yes {l : List UInt8} {q : Nat} (h : tk [46] l q = true) (h2 : runP l (q + 1) ≠ q + 1) : fracP l q = (runP l (q + 1), true, true) := by unfold fracP; rw [h, if_pos rfl, dig_yes h2]
theorem frac_none {l : List UInt8} {q : Nat} (h : tk [46] l q = false) : fracP l q = (q, false, true) := by unfold fracP; rw [h]; rfl
theorem rest_frac {l : List UInt8} {q r : Nat} {b : Bool} (h : fracP l q = (r, b, true)) : restP l q = ((expoP l r).1, b || (expoP l r).2.1, (expoP l r).2.2) := by
  unfold restP; rw [h]; rfl
theorem expo_none {l : List UInt8} {q : Nat} (h : tk [101, 69] l q = false) : expoP l q = (q, false, true) := by unfold expoP; rw [h]; rfl
theorem expo_no {l : List UInt8} {q : Nat} (h : tk [101, 69] l q = true) (h2 : runP l (stepP [43, 45] l (q + 1)) = stepP [43, 45] l (q + 1)) : expoP l q = (stepP [43, 45] l (q + 1), true, false) := by unfold expoP; rw [h, if_pos rfl, dig_no h2]
theorem expo_yes {l : List UInt8} {q : Nat} (h : tk [101, 69] l q = true) (h2 : runP l (stepP [43, 45] l (q + 1)) ≠ stepP [43, 45] l (q + 1)) : expoP l q = (runP l (stepP [43, 45] l (q + 1)), true, true) := by unfold expoP; rw [h, if_pos rfl, dig_yes h2]
theorem step_yes {set l : List UInt8} {p : Nat} (h : tk set l p = true) : stepP set l p = p + 1 := by unfold stepP; rw [h]; rfl
theorem step_no {set l : List UInt8} {p : Nat} (h : tk set l p = false) : stepP set l p = p := by unfold stepP; rw [h]; rfl
theorem whole_run0 {l : List UInt8} {p : Nat} (h : runP l p = p) : wholeP l p = (p, false) := by
  have h0 : tk [48] l p = false := by
    cases ht : tk [48] l p
    · rfl
    · have t := tk_one ht
      have : tk dset l p = true := by
        unfold tk
        rw [decide_eq_true t.1, t.2]; rfl
      rw [run_yes this] at h
      have := run_from l (p + 1)
      omega
  unfold wholeP
  rw [h0, dig_no h]; rfl
theorem whole_zero {l : List UInt8} {p : Nat} (h : tk [48] l p = true) : wholeP l p = (p + 1, true) := by unfold wholeP; rw [h]; rfl
theorem whole_run {l : List UInt8} {p : Nat} (h : tk [48] l p = false) (h2 : runP l p ≠ p) : wholeP l p = (runP l p, true) := by unfold wholeP; rw [h, dig_yes h2]; rfl

set_option maxRecDepth 20000 in
set_option maxHeartbeats 4000000 in
theorem end_any (A : Option Addr) (n c B p : Nat) (l : List UInt8) (w : World) (hl : Bytes w B A n l) (hp : p ≤ n) (hn : n ≤ 100000) :
    Calls Tryd.prog 12 #[.slice A n c, .int .i64 (p : Int)] w fun e w' => e = .returned (endR l p) ∧ ∃ k, w' = w.drewN k := by
  have Hl := Lib.hid hl.len
  have his := fun (q m : Nat) (hq : q ≤ 1000000) (set : List UInt8) (S : ByteArray) (hS : S.data.toList = set) (hz : S.size ≤ 100) => is_any A n c B q l set S hS hz (w.drewN m) (hl.drewN m) hq
  have hrun := fun (q m : Nat) (hq : q ≤ n + 1) => run_any A n c B q l (w.drewN m) (hl.drewN m) hq hn
  go_enter Tryd.func12, Tryd.ntmps12
  have h1 := his p 0 (by omega) [45] ⟨#[45]⟩ rfl (by decide)
  obtain ⟨b1, hb1, HS⟩ : ∃ b1, tk [45] l p = b1 ∧ Hid (signP l p = if b1 = true then p + 1 else p) := ⟨_, rfl, Lib.hid rfl⟩
  have hsl := step_le [45] l p (by rw [Hl.out]; exact hp)
  rw [Hl.out] at hsl
  have hsl : signP l p ≤ n := hsl
  rw [hb1] at h1
  clear hb1
  go_wp2_with fail
  refine h1.mono ?_
  rintro e w1 ⟨rfl, k1, rfl⟩
  go_upto_if 11 with fail
  go_cut [1] (fun s1 wx => s1 = .int .i64 (signP l p : Int) ∧ ∃ k, wx = w.drewN k)
  case first =>
    cases b1
    all_goals
      go_wp2_with fail
      go_meet
      case rel => exact ⟨by rw [HS.out]; first | rfl | go_num, _, by first | exact rfl | exact World.drewN_drewN _ _ _⟩
  case rest =>
    obtain ⟨rfl, k, rfl⟩ := hcut
    clear HS h1
    generalize hs : signP l p = s at *
    have HSG := Lib.hid hs
    clear hs
    have hr := hrun s k (by omega)
    by_cases hrs : runP l s = s
    · have HE := Lib.hid (endR_no (l := l) (p := p) (q := s) (part := false) (by rw [scan_no1 (by rw [HSG.out, whole_run0 hrs]), HSG.out, whole_run0 hrs]))
      rw [hrs] at hr
      clear hrs his hrun
      go_wp2_with fail
      refine hr.mono ?_
      rintro e w2 ⟨rfl, k2, rfl⟩
      go_wp2
      go_ret3
      exact ⟨by rw [HE.out]; rfl, _, by first | exact rfl | exact World.drewN_drewN _ _ _⟩
    · have hne : ((runP l s : Int) == (s : Int)) = false := by rw [beq_eq_false_iff_ne]; omega
      have hrl := run_le l s (by rw [Hl.out]; exact hsl)
      have hrf := run_from l s
      rw [Hl.out] at hrl
      obtain ⟨b2, hb2⟩ : ∃ b2, tk [48] l s = b2 := ⟨_, rfl⟩
      have h2 := fun m => his s m (by omega) [48] ⟨#[48]⟩ rfl (by decide)
      rw [hb2] at h2
      obtain ⟨q, hq, hq2⟩ : ∃ q, (if b2 = true then s + 1 else runP l s) = q ∧ wholeP l s = (q, true) := by
        refine ⟨_, rfl, ?_⟩
        cases b2
        · exact whole_run hb2 hrs
        · exact whole_zero hb2
      have hqn : q ≤ n := by rw [← hq]; split <;> omega
      have HQ := Lib.hid hq
      have HR := Lib.hid (scan_rest (l := l) (p := p) (by rw [HSG.out, hq2]))
      rw [HSG.out, hq2] at HR
      clear hq hq2 hb2 hrs hrl hrf
      generalize runP l s = r at *
      go_wp2_with fail
      refine hr.mono ?_
      rintro e w2 ⟨rfl, k2, hk2⟩
      obtain rfl : w2 = w.drewN (k + k2) := hk2.trans (World.drewN_drewN _ _ _)
      clear hk2
      generalize k + k2 = m2 at *
      go_wp2_with fail
      refine (h2 m2).mono ?_
      rintro e w3 ⟨rfl, k3, hk3⟩
      obtain rfl : w3 = w.drewN (m2 + k3) := hk3.trans (World.drewN_drewN _ _ _)
      clear hk3 h2
      generalize m2 + k3 = m3 at *
      go_upto_if 23 with fail
      go_cut [7] (fun s7 wx => s7 = .int .i64 (q : Int) ∧ wx = w.drewN m3)
      case first =>
        cases b2
        all_goals
          have hq' := HQ.out
          simp only [Bool.false_eq_true, if_false, if_true] at hq'
          subst hq'
          go_wp2_with fail
          go_meet
          case rel => exact ⟨by first | rfl | go_num, rfl⟩
      case rest =>
        obtain ⟨rfl, rfl⟩ := hcut
        clear HQ hne hr
        obtain ⟨b4, hb4⟩ : ∃ b4, tk [46] l q = b4 := ⟨_, rfl⟩
        have h4 := his q m3 (by omega) [46] ⟨#[46]⟩ rfl (by decide)
        rw [hb4] at h4
        have hrl := fun h => run_le l (q + 1) h
        rw [Hl.out] at hrl
        have hq1 : b4 = true → q + 1 ≤ n := by
          intro e
          rw [e] at hb4
          have := tk_lt hb4
          rw [Hl.out] at this
          omega
        by_cases hpe : b4 = true ∧ runP l (q + 1) = q + 1
        · obtain ⟨rfl, hpe⟩ := hpe
          have HE := Lib.hid (endR_no (l := l) (p := p) (HR.out.trans (rest_point hb4 hpe)))
          have hr := fun m => hrun (q + 1) m (by have := hq1 rfl; omega)
          rw [hpe] at hr
          clear hpe hb4 hq1 hrl
          go_wp2_with fail
          refine h4.mono ?_
          rintro e w4 ⟨rfl, k4, hk4⟩
          obtain rfl : w4 = w.drewN (m3 + k4) := hk4.trans (World.drewN_drewN _ _ _)
          clear hk4
          generalize m3 + k4 = m4 at *
          have hr := hr m4
          rw [show ((q + 1 : Nat) : Int) = (q : Int) + 1 by omega] at hr HE
          go_wp2_with fail
          refine hr.mono ?_
          rintro e w5 ⟨rfl, k5, rfl⟩
          go_wp2
          go_ret3
          exact ⟨by rw [HE.out]; rfl, _, by first | exact rfl | exact World.drewN_drewN _ _ _⟩
        · obtain ⟨f, HF, hfn⟩ : ∃ f, Hid (fracP l q = (f, b4, true) ∧ f = if b4 = true then runP l (q + 1) else q) ∧ f ≤ n := by
            cases b4
            · exact ⟨q, Lib.hid ⟨frac_none hb4, rfl⟩, hqn⟩
            · exact ⟨runP l (q + 1), Lib.hid ⟨frac_yes hb4 (fun e => hpe ⟨rfl, e⟩), rfl⟩, hrl (hq1 rfl)⟩
          have hr := fun m h => hrun (q + 1) m h
          have HX : Hid (b4 = true → ((runP l (q + 1) : Int) == (q : Int) + 1) = false) := Lib.hid (by
            intro e
            rw [beq_eq_false_iff_ne]
            intro e2
            exact hpe ⟨e, by omega⟩)
          have HQ1 := Lib.hid hq1
          clear hpe hb4 hrl hq1
          go_wp2_with fail
          refine h4.mono ?_
          rintro e w4 ⟨rfl, k4, hk4⟩
          obtain rfl : w4 = w.drewN (m3 + k4) := hk4.trans (World.drewN_drewN _ _ _)
          clear hk4 h4
          generalize m3 + k4 = m4 at *
          go_upto_if 28 with fail
          go_cut [7, 8] (fun s7 s8 wx => s7 = .int .i64 (f : Int) ∧ s8 = .bool (!b4) ∧ ∃ k, wx = w.drewN k)
          case first =>
            cases b4
            · have hf := HF.out.2
              simp only [Bool.false_eq_true, if_false] at hf
              subst hf
              go_wp2_with fail
              go_meet
              case rel => exact ⟨rfl, rfl, _, rfl⟩
            · have hf := HF.out.2
              simp only [if_true] at hf
              have hx := HX.out rfl
              have hr := hr m4 (by have := HQ1.out rfl; omega)
              rw [show ((q + 1 : Nat) : Int) = (q : Int) + 1 by omega, ← hf] at hr
              rw [← hf] at hx
              clear hf HX
              go_wp2_with fail
              refine hr.mono ?_
              rintro e w5 ⟨rfl, k5, rfl⟩
              go_wp2_with fail
              go_meet
              case rel => exact ⟨rfl, rfl, _, by first | exact rfl | exact World.drewN_drewN _ _ _⟩
          case rest =>
            obtain ⟨rfl, rfl, k5, rfl⟩ := hcut
            have HR2 := Lib.hid (HR.out.trans (rest_frac HF.out.1))
            clear HX hr HQ1 HF HR
            have h6 := his f k5 (by omega) [101, 69] ⟨#[101, 69]⟩ rfl (by decide)
            cases hb6 : tk [101, 69] l f
            · have HE := Lib.hid (endR_yes (l := l) (p := p) (by rw [HR2.out, expo_none hb6]))
              rw [hb6] at h6
              clear hb6 HR2
              rw [Bool.or_false] at HE
              go_wp2_with fail
              refine h6.mono ?_
              rintro e w6 ⟨rfl, k6, rfl⟩
              cases b4
              all_goals
                go_wp2
                go_ret3
                exact ⟨by rw [HE.out]; rfl, _, by first | exact rfl | exact World.drewN_drewN _ _ _⟩
            · have hlt := tk_lt hb6
              rw [Hl.out] at hlt
              have hsl := step_le [43, 45] l (f + 1) (by rw [Hl.out]; omega)
              rw [Hl.out] at hsl
              have h7 := fun m => his (f + 1) m (by omega) [43, 45] ⟨#[43, 45]⟩ rfl (by decide)
              obtain ⟨b7, hb7, HS7⟩ : ∃ b7, tk [43, 45] l (f + 1) = b7 ∧ Hid (stepP [43, 45] l (f + 1) = if b7 = true then f + 1 + 1 else f + 1) := ⟨_, rfl, Lib.hid rfl⟩
              rw [hb7] at h7
              have HNO := Lib.hid (fun h => endR_no (l := l) (p := p) (by rw [HR2.out, expo_no hb6 h]))
              have HYES := Lib.hid (fun h => endR_yes (l := l) (p := p) (by rw [HR2.out, expo_yes hb6 h]))
              rw [hb6] at h6
              clear hb6 hb7 HR2
              generalize stepP [43, 45] l (f + 1) = t at *
              rw [show ((f + 1 : Nat) : Int) = (f : Int) + 1 by omega] at h7
              go_wp2_with fail
              refine h6.mono ?_
              rintro e w6 ⟨rfl, k6, hk6⟩
              obtain rfl : w6 = w.drewN (k5 + k6) := hk6.trans (World.drewN_drewN _ _ _)
              clear hk6 h6
              generalize k5 + k6 = m6 at *
              go_wp2_with fail
              refine (h7 m6).mono ?_
              rintro e w7 ⟨rfl, k7, hk7⟩
              obtain rfl : w7 = w.drewN (m6 + k7) := hk7.trans (World.drewN_drewN _ _ _)
              clear hk7 h7
              generalize m6 + k7 = m7 at *
              go_upto_if 45 with fail
              go_cut [1] (fun s1 wx => s1 = .int .i64 (t : Int) ∧ wx = w.drewN m7)
              case first =>
                cases b7
                all_goals
                  have ht := HS7.out
                  simp only [Bool.false_eq_true, if_false, if_true] at ht
                  subst ht
                  go_wp2_with fail
                  go_meet
                  case rel => exact ⟨by first | rfl | go_num, rfl⟩
              case rest =>
                obtain ⟨rfl, rfl⟩ := hcut
                have hr := hrun t m7 (by omega)
                clear HS7
                by_cases hrt : runP l t = t
                · have HE := Lib.hid (HNO.out hrt)
                  rw [hrt] at hr
                  clear hrt HNO HYES
                  go_wp2_with fail
                  refine hr.mono ?_
                  rintro e w8 ⟨rfl, k8, rfl⟩
                  go_wp2
                  go_ret3
                  exact ⟨by rw [HE.out]; rfl, _, by first | exact rfl | exact World.drewN_drewN _ _ _⟩
                · have HE := Lib.hid (HYES.out hrt)
                  have hne : ((runP l t : Int) == (t : Int)) = false := by rw [beq_eq_false_iff_ne]; omega
                  clear hrt HNO HYES
                  generalize runP l t = r at *
                  rw [Bool.or_true] at HE
                  go_wp2_with fail
                  refine hr.mono ?_
                  rintro e w8 ⟨rfl, k8, rfl⟩
                  go_wp2
                  go_ret3
                  exact ⟨by rw [HE.out]; rfl, _, by first | exact rfl | exact World.drewN_drewN _ _ _⟩
end Go.Proofs.YtchmchbgbchipaaDoor
