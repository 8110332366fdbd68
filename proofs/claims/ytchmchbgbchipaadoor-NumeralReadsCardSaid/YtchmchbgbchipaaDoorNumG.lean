/-
  Layer 3: the reference's Number.
-/
import Derived.Test.YtchmchbgbchipaaDoorNumF
import Derived.IntWalk
namespace Go.Proofs.YtchmchbgbchipaaDoor
open Go.RowKit Go.IntWalk

theorem take_val (ds : List UInt8) (j : Nat) (h : j < ds.length) : valD 0 (ds.take (j + 1)) = valD 0 (ds.take j) * 10 + ((ds.getD j 0).toNat - 48) := by
  rw [take_snoc ds j h, valD_append, valD_one]
theorem take_le (ds : List UInt8) (j : Nat) : valD 0 (ds.take j) ≤ valD 0 ds := by
  have := valD_append (ds.take j) (ds.drop j) 0
  rw [List.take_append_drop] at this
  rw [this]
  exact valD_ge _ _
def numT : Option Int → Value
  | some v => .tuple #[.int .i64 v, .bool true]
  | none => .tuple #[.int .i64 0, .bool false]
theorem num_test (v x : Nat) (h1 : 48 ≤ x) (h2 : x ≤ 57) : (-(v : Int) < (-9223372036854775808 + ((x : Int) - 48)).tdiv 10) ↔ 9223372036854775808 < v * 10 + (x - 48) := by
  have e : (-9223372036854775808 + ((x : Int) - 48)) = -(((9223372036854775808 - (x - 48) : Nat)) : Int) := by omega
  rw [e, Int.neg_tdiv, Int.tdiv_eq_ediv_of_nonneg (by omega)]
  omega
theorem num_wrap (v x : Nat) (h1 : 48 ≤ x) (h2 : x ≤ 57) (hf : v * 10 + (x - 48) ≤ 9223372036854775808) : RowKit.wrap64 (RowKit.wrap64 (10 * -(v : Int)) - ((x : Int) - 48)) = -((v * 10 + (x - 48) : Nat) : Int) := by
  rw [wrap64_in (10 * -(v : Int)) ⟨by omega, by omega⟩, wrap64_in _ ⟨by omega, by omega⟩]
  omega
def Fit (v : Nat) : Prop := v ≤ 9223372036854775808
/-- How many digits are over when k bytes are. -/
def Over (neg : Bool) (k j : Nat) : Prop := (neg = true ∧ k = 0 ∧ j = 0) ∨ (neg = true ∧ k = j + 1) ∨ (neg = false ∧ k = j)
theorem over_zero (neg : Bool) : Over neg 0 0 := by cases neg <;> simp [Over]
theorem num_far {ds : List UInt8} (neg : Bool) {v : Nat} (h : v ≤ valD 0 ds) (h2 : 9223372036854775808 < v) : numR neg ds = none := by
  cases neg
  · rw [numR_plain, if_neg (by omega)]
  · rw [numR_neg, if_neg (by omega)]
set_option maxRecDepth 20000 in
set_option maxHeartbeats 2000000 in
theorem number_any (A : Option Addr) (n c B : Nat) (neg : Bool) (ds : List UInt8) (w : World) (hl : Bytes w B A n (withSign neg ds)) (hd : allDg ds) (hne : ds ≠ []) (hn : n ≤ 100000) :
    Calls Tryd.prog 13 #[.slice A n c] w fun e w' => e = .returned (numT (numR neg ds)) ∧ w' = w := by
  have Hl := Lib.hid hl.len
  have hpos : 0 < n := by
    have := hl.len
    rcases ds with _ | ⟨x, r⟩
    · exact absurd rfl hne
    · rw [← this]; cases neg <;> simp [withSign]
  obtain ⟨b1, o1, hA, _, hc0⟩ := hl.cell hpos
  have h45 : (at8 (withSign neg ds) 0 == 45) = neg := by
    cases neg
    · rcases ds with _ | ⟨x, r⟩
      · exact absurd rfl hne
      · have := (isDg_iff x).1 (hd x (by simp))
        rw [beq_eq_false_iff_ne]
        show ((x.toNat : Nat) : Int) ≠ 45
        omega
    · rfl
  subst hA
  rw [Nat.add_zero] at hc0
  have hpos' : (0 : Int) < (n : Int) := by omega
  have hpos2 : ¬ (n : Int) ≤ 0 := by omega
  go_enter Tryd.func13, Tryd.ntmps13
  go_wp2_with fail
  clear h45 hc0
  go_loop [5, 6] (fun a i => ∃ k j v : Nat, k ≤ n ∧ i = .int .i64 k ∧ Over neg k j ∧ Hid (valD 0 (ds.take j) = v) ∧ Fit v ∧ a = .int .i64 (-(v : Int))) (fun _ i => n - (intOf i).toNat)
  case atStart => exact ⟨0, 0, 0, Nat.zero_le _, rfl, over_zero neg, Lib.hid rfl, Nat.zero_le _, rfl⟩
  case round =>
    obtain ⟨k, j, v, hk, rfl, Hj, HV, hv, rfl⟩ := hrel
    by_cases hlt : k < n
    · by_cases hn0 : neg = true ∧ k = 0
      · obtain ⟨rfl, rfl⟩ := hn0
        have hj : j = 0 := by rcases Hj with ⟨_, _, h⟩ | ⟨_, h⟩ | ⟨h, _⟩ <;> first | exact h | omega | cases h
        subst hj
        have HO : Over true 1 0 := .inr (.inl ⟨rfl, rfl⟩)
        clear Hj
        go_wp2_with fail
        go_round
        case rel => exact ⟨1, 0, v, by omega, by go_num, HO, HV, hv, rfl⟩
        case measure => simp [intOf]; omega
      · have hj : k = (if neg = true then j + 1 else j) := by
          rcases Hj with ⟨h1, h2, _⟩ | ⟨h1, h2⟩ | ⟨h1, h2⟩
          · exact absurd ⟨h1, h2⟩ hn0
          · rw [h1, h2]; rfl
          · rw [h1, h2]; rfl
        have hlen := Hl.out
        have hjl : j < ds.length := by
          rw [hj] at hlt
          cases neg <;> simp [withSign] at hlen hlt <;> omega
        have hb : at8 (withSign neg ds) k = ((ds.getD j 0).toNat : Int) := by
          rw [hj]
          cases neg
          · rfl
          · show (((45 :: ds).getD (j + 1) 0).toNat : Int) = _
            rw [List.getD_cons_succ]
        have hdg := (isDg_iff (ds.getD j 0)).1 (by
          rw [List.getD_eq_getElem?_getD, List.getElem?_eq_getElem hjl]
          exact hd _ (List.getElem_mem hjl))
        have hneg : k = 0 → neg = false := fun h => by
          cases neg
          · rfl
          · exact absurd ⟨rfl, h⟩ hn0
        have HO : Over neg (k + 1) (j + 1) := by
          unfold Over
          rw [hj]
          cases neg <;> simp
        obtain ⟨b2, o2, hA, _, hc⟩ := hl.cell hlt
        injection hA with hA
        injection hA with hA1 hA2
        subst hA1 hA2
        rw [hb] at hc
        have HT := Lib.hid (take_val ds j hjl)
        rw [HV.out] at HT
        have hvle := Lib.hid (take_le ds (j + 1))
        clear hj hb hlen hn0 Hj hjl
        generalize (ds.getD j 0).toNat = x at *
        have i1 : (48 : Int) ≤ (x : Int) := by omega
        have i2 : (x : Int) ≤ 57 := by omega
        have i3 : (k : Int) < (n : Int) := by omega
        have i4 : (0 : Int) ≤ (k : Int) := by omega
        clear hdg
        have hcase : (k = 0 ∧ neg = false) ∨ ((k : Int) == 0) = false := by
          rcases Nat.eq_zero_or_pos k with h | h
          · exact .inl ⟨h, hneg h⟩
          · exact .inr (by rw [beq_eq_false_iff_ne]; omega)
        clear hneg
        rcases hcase with ⟨rfl, rfl⟩ | hk0
        · rw [Nat.add_zero] at hc
          go_wp2_with fail
          case roundEnd =>
            have ht : ¬ (-(v : Int) < (-9223372036854775808 + ((x : Int) - 48)).tdiv 10) := by first | assumption | exact Int.not_lt.2 (by assumption)
            rw [num_test v x (by omega) (by omega)] at ht
            refine ⟨⟨1, j + 1, v * 10 + (x - 48), by omega, rfl, HO, HT, by unfold Fit; omega, by rw [num_wrap v x (by omega) (by omega) (by omega)]⟩, by simp [intOf]; omega⟩
          · have ht : -(v : Int) < (-9223372036854775808 + ((x : Int) - 48)).tdiv 10 := by assumption
            rw [num_test v x (by omega) (by omega)] at ht
            have HN := Lib.hid (num_far (ds := ds) false (v := v * 10 + (x - 48)) (by rw [← HT.out]; exact hvle.out) ht)
            clear ht
            go_ret2
            exact ⟨by rw [HN.out]; rfl, rfl⟩
        · go_wp2_with fail
          case roundEnd =>
            have ht : ¬ (-(v : Int) < (-9223372036854775808 + ((x : Int) - 48)).tdiv 10) := by first | assumption | exact Int.not_lt.2 (by assumption)
            rw [num_test v x (by omega) (by omega)] at ht
            refine ⟨⟨k + 1, j + 1, v * 10 + (x - 48), by omega, by go_num, HO, HT, by unfold Fit; omega, by rw [num_wrap v x (by omega) (by omega) (by omega)]⟩, by simp [intOf]; omega⟩
          · have ht : -(v : Int) < (-9223372036854775808 + ((x : Int) - 48)).tdiv 10 := by assumption
            rw [num_test v x (by omega) (by omega)] at ht
            have HN := Lib.hid (num_far (ds := ds) neg (v := v * 10 + (x - 48)) (by rw [← HT.out]; exact hvle.out) ht)
            clear ht
            go_ret2
            exact ⟨by rw [HN.out]; rfl, rfl⟩
    · have hkn : k = n := by omega
      have hje : ds.take j = ds := by
        apply List.take_of_length_le
        have := Hl.out
        rcases Hj with ⟨_, h2, _⟩ | ⟨h1, h2⟩ | ⟨h1, h2⟩
        · omega
        · rw [h1, show withSign true ds = 45 :: ds from rfl, List.length_cons] at this; omega
        · rw [h1, show withSign false ds = ds from rfl] at this; omega
      rw [hje] at HV
      clear hje Hj hkn hd hne
      cases neg
      · by_cases hv2 : v = 9223372036854775808
        · have HN := Lib.hid (show numR false ds = none by rw [numR_plain, HV.out, if_neg (by omega)])
          have hb : (-(v : Int) == -9223372036854775808) = true := by rw [beq_iff_eq]; omega
          clear hv2 hv HV
          go_wp2_with fail
          go_ret2
          exact ⟨by rw [HN.out]; rfl, rfl⟩
        · have HN := Lib.hid (show numR false ds = some (v : Int) by unfold Fit at hv; rw [numR_plain, HV.out, if_pos (by omega)])
          have hb : (-(v : Int) == -9223372036854775808) = false := by rw [beq_eq_false_iff_ne]; omega
          have hneg : -(-(v : Int)) = (v : Int) := by omega
          have hw : RowKit.wrap64 (v : Int) = (v : Int) := by unfold Fit at hv; exact wrap64_in _ ⟨by omega, by omega⟩
          clear hv2 hv HV
          go_wp2_with fail
          go_ret2
          exact ⟨by rw [HN.out]; rfl, rfl⟩
      · have HN := Lib.hid (show numR true ds = some (-(v : Int)) by unfold Fit at hv; rw [numR_neg, HV.out, if_pos (by omega)])
        clear hv HV
        go_wp2_with fail
        go_ret2
        exact ⟨by rw [HN.out]; rfl, rfl⟩
end Go.Proofs.YtchmchbgbchipaaDoor
