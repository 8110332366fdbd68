/-
  The walk of NumeralAlone.
-/
import Derived.Test.YtchmchbgbchipaaDoorNumH
import Derived.Test.YtchmchbgbchipaaDoorNumW
import Derived.Lib.ParseIntBTie
namespace Go.Proofs.YtchmchbgbchipaaDoor
open Go.RowKit
set_option linter.unusedVariables false

theorem whole_from (l : List UInt8) (p : Nat) : p ≤ (wholeP l p).1 := by
  unfold wholeP
  split
  · simp only; omega
  · exact run_from l p
theorem scan_from (l : List UInt8) (p : Nat) : p ≤ (scanP l p).1 := by
  have a : p ≤ signP l p := step_from [45] l p
  have b := whole_from l (signP l p)
  have c := frac_from l (wholeP l (signP l p)).1
  have d := expo_from l (fracP l (wholeP l (signP l p)).1).1
  unfold scanP
  split
  · simp only; omega
  · split <;> (simp only; omega)
set_option maxRecDepth 20000 in
set_option maxHeartbeats 4000000 in
theorem alone_in (w : World) (A : Option Addr) (n c : Nat) (l : List UInt8) (h : Bytes w w.heap.size A n l) (hA : A = none → c = 0) (hn : n ≤ c) (hc : c ≤ maxLen) (p : Nat) (hp : p ≤ (l.take 200).length) (hv : NVars w) :
    Calls Tryd.prog 6 #[.slice A n c, .int .i64 (p : Int)] w fun e w' => e = .returned (.bool true) ∧ Below w.heap.size w w' := by
  go_enter Tryd.func6, Tryd.ntmps6
  go_wp2_with fail
  refine (wakes_any w hv).mono ?_
  rintro e w1 ⟨rfl, hb1⟩
  have v1 := hv.next hb1
  go_wp2_with fail
  refine (few_any A n c w.heap.size l w1 (h.below hb1) hA hb1.size hn hc).mono ?_
  rintro e w2 ⟨A2, n2, c2, rfl, hown2, hb2⟩
  have v2 := v1.next hb2
  have hl2 : Bytes w2 w2.heap.size A2 n2 (l.take 200) := Bytes.own hown2
  have Hl2 := Lib.hid hl2.len
  have hn2 : n2 ≤ 200 := by rw [← Hl2.out, List.length_take]; omega
  have hpn : p ≤ n2 := by rw [← Hl2.out]; exact hp
  have hb02 := bel_next hb1 hb2
  obtain ⟨hnc, hcm⟩ : n2 ≤ c2 ∧ c2 ≤ maxLen := by obtain ⟨_, _, h1, h2, h3⟩ := own_form hown2; cases h1; exact ⟨h2, h3⟩
  unfold maxLen at hcm
  have hrd := read_in A2 n2 c2 w2.heap.size p (l.take 200) w2 v2 hl2 (Nat.le_refl _) (by omega) hnc hpn
  have i0 : (0 : Int) ≤ (p : Int) := by omega
  clear hown2 hb1 hb2 v1 hv hp
  generalize l.take 200 = L at *
  unfold Reads at hrd
  have hle := scan_le L p (by rw [Hl2.out]; exact hpn)
  have hfr := scan_from L p
  rw [Hl2.out] at hle
  by_cases hgood : (readT L p).2.2 = 0
  · have hok : (scanP L p).2.2 = true := by
      cases hok : (scanP L p).2.2
      · rw [readT_no hok] at hgood; simp at hgood
      · rfl
    have hpart : (scanP L p).2.1 = false := by
      cases hpart : (scanP L p).2.1
      · rfl
      · rw [readT_part hok hpart] at hgood; simp at hgood
    obtain ⟨v, hpv⟩ : ∃ v, Lib.parseIntB 64 (numL L p) = .ok v := by
      rcases hpi : Lib.parseIntB 64 (numL L p) with v | _ | _
      · exact ⟨v, rfl⟩
      · rw [readT_bad hok (by rw [hpi]; simp)] at hgood; simp at hgood
      · rw [readT_bad hok (by rw [hpi]; simp)] at hgood; simp at hgood
    rw [readT_ok hok hpart hpv] at hrd
    have hsay := read_says hok hpart hpv
    have hgt := scan_gt hok
    have hbd := Lib.parseIntB_bounds hpv
    have hv64 : I64 v := ⟨by have := hbd.1; simp at this; omega, by have := hbd.2; simp at this; omega⟩
    have hcut := fun {W : World} (hb : Below w2.heap.size w2 W) => by
      have hq := ((hl2.below hb).cut (k := p) (cap := c2) (by omega) hnc)
      rw [if_neg (show ¬ c2 = p by omega)] at hq
      have hq := hq.first (k := (scanP L p).1 - p) (by omega)
      rw [show (L.drop p).take ((scanP L p).1 - p) = numL L p from rfl] at hq
      exact hq
    have hconv := fun W (hb : Below w2.heap.size w2 W) => run_bytes_string (P := Tryd.prog) Tryd.underlying22 Tryd.underlying5 Tryd.underlying9 W (A2.map (·.add p)) ((scanP L p).1 - p) (c2 - p) w2.heap.size (numL L p) (hcut hb)
    have hcq : (scanP L p).1 < n2 → ∀ W, Below w2.heap.size w2 W → ∃ b off, A2 = some ⟨b, off, none⟩ ∧ b < w2.heap.size ∧ W.cell? ⟨b, off + (scanP L p).1, none⟩ = some (.int .u8 (at8 L (scanP L p).1)) := fun hq W hb => (hl2.below hb).cell hq
    have hdig : (scanP L p).1 < n2 → 48 ≤ at8 L (scanP L p).1 → at8 L (scanP L p).1 ≤ 57 → tk dset L (scanP L p).1 = true := by
      intro h1 h2 h3
      unfold tk
      rw [decide_eq_true (by rw [Hl2.out]; exact h1), dset_is, Bool.true_and, isDg_iff]
      unfold at8 at h2 h3
      omega
    have hne2 : ¬ c2 = p := by omega
    have j1 : (p : Int) ≤ ((scanP L p).1 : Int) := by omega
    have j2 : ((scanP L p).1 : Int) ≤ (c2 : Int) := by omega
    have j3 : ¬ ((scanP L p).1 : Int) ≤ (p : Int) := by omega
    have j4 : ¬ (n2 : Int) < ((scanP L p).1 : Int) := by omega
    clear hgood hok hpart hpv hcut hfr hbd
    generalize (scanP L p).1 = q at *
    go_wp2_with fail
    refine hrd.mono ?_
    rintro e w3 ⟨rfl, hb3⟩
    have v3 := v2.next hb3
    have hcv := hconv w3 hb3
    have hpr := print_any v hv64 w3 v3
    rcases hsay with ⟨hs1, rfl⟩ | ⟨hs1, hs2, hs3⟩
    · rw [hs1] at hcv
      have hSe : (ofL [45, 48]).toList = [45, 48] := by rw [ByteArray.toList_eq, ofL_toList]
      clear hconv hpr hcq hdig hrd
      generalize ofL [45, 48] = S at *
      go_wp2
      go_ret
      exact ⟨rfl, bel_next hb02 hb3⟩
    · have hSe : ((ofL (numL L p)).toList == [45, 48]) = false := by rw [ByteArray.toList_eq, ofL_toList, beq_eq_false_iff_ne]; exact hs1
      rw [← hs2] at hpr
      clear hconv hs1 hs2 hrd
      generalize ofL (numL L p) = S at *
      by_cases hqn : q < n2
      · obtain ⟨b3, o3, rfl, -, hcell⟩ := hcq hqn w3 hb3
        rw [Option.map_some, addr_add] at hcv
        have hx0 := at8_lo L q
        have hx1 := at8_hi L q
        have hdig := hdig hqn
        have k1 : (q : Int) < (n2 : Int) := by omega
        have k2 : (0 : Int) ≤ (q : Int) := by omega
        clear hcq
        generalize at8 L q = x at *
        by_cases hx : 48 ≤ x ∧ x ≤ 57
        · have hv0 := hs3 (hdig hx.1 hx.2)
          obtain ⟨x1, x2⟩ := hx
          subst hv0
          clear hdig hs3
          go_wp2_with fail
          refine hpr.mono ?_
          rintro e w4 ⟨rfl, hb4⟩
          go_wp2
          go_ret
          exact ⟨rfl, bel_next hb02 (bel_next hb3 hb4)⟩
        · clear hdig hs3
          by_cases x1 : 48 ≤ x
          · have x2 : ¬ x ≤ 57 := fun h => hx ⟨x1, h⟩
            clear hx
            go_wp2_with fail
            refine hpr.mono ?_
            rintro e w4 ⟨rfl, hb4⟩
            go_wp2
            go_ret
            exact ⟨rfl, bel_next hb02 (bel_next hb3 hb4)⟩
          · clear hx
            go_wp2_with fail
            refine hpr.mono ?_
            rintro e w4 ⟨rfl, hb4⟩
            go_wp2
            go_ret
            exact ⟨rfl, bel_next hb02 (bel_next hb3 hb4)⟩
      · have k1 : ¬ (q : Int) < (n2 : Int) := by omega
        clear hcq hdig hs3
        go_wp2_with fail
        refine hpr.mono ?_
        rintro e w4 ⟨rfl, hb4⟩
        go_wp2
        go_ret
        exact ⟨rfl, bel_next hb02 (bel_next hb3 hb4)⟩
  · have hbad : ∃ (q : Nat) (r : Int), readT L p = (0, q, r) ∧ (r = 7 ∨ r = 130) ∧ p ≤ q ∧ q ≤ n2 := by
      cases hok : (scanP L p).2.2
      · exact ⟨_, 7, readT_no hok, .inl rfl, hfr, hle⟩
      · cases hpart : (scanP L p).2.1
        · rcases hpi : Lib.parseIntB 64 (numL L p) with v | _ | _
          · rw [readT_ok hok hpart hpi] at hgood; simp at hgood
          · exact ⟨p, 130, readT_bad hok (by rw [hpi]; simp), .inr rfl, Nat.le_refl _, hpn⟩
          · exact ⟨p, 130, readT_bad hok (by rw [hpi]; simp), .inr rfl, Nat.le_refl _, hpn⟩
        · exact ⟨p, 130, readT_part hok hpart, .inr rfl, Nat.le_refl _, hpn⟩
    obtain ⟨q, r, hq, hr, hq1, hq2⟩ := hbad
    rw [hq] at hrd
    clear hq hgood hle hfr
    have k1 : (p : Int) ≤ (q : Int) := by omega
    have k2 : (q : Int) ≤ (n2 : Int) := by omega
    go_wp2_with fail
    refine hrd.mono ?_
    rintro e w3 ⟨rfl, hb3⟩
    rcases hr with rfl | rfl
    all_goals
      go_wp2
      go_ret
      exact ⟨rfl, bel_next hb02 hb3⟩
set_option maxRecDepth 20000 in
theorem numeralAlone_walk (w : World) (A : Option Addr) (n c : Nat) (l : List UInt8) (h : Bytes w w.heap.size A n l) (hA : A = none → c = 0) (hn : n ≤ c) (hc : c ≤ maxLen) (x : Int) (hx : (Lit.int .i64 x).wf = true) (hv : NVars w) :
    Calls Tryd.prog 6 #[.slice A n c, .int .i64 x] w fun e w' => e = .returned (.bool true) ∧ Below w.heap.size w w' := by
  clear hx
  by_cases hin : 0 ≤ x ∧ x ≤ ((l.take 200).length : Int)
  · obtain ⟨p, rfl⟩ : ∃ p : Nat, x = (p : Int) := ⟨x.toNat, by omega⟩
    exact alone_in w A n c l h hA hn hc p (by omega) hv
  have Hin := Lib.hid (show x < 0 ∨ ((l.take 200).length : Int) < x by omega)
  clear hin
  go_enter Tryd.func6, Tryd.ntmps6
  go_wp2_with fail
  refine (wakes_any w hv).mono ?_
  rintro e w1 ⟨rfl, hb1⟩
  go_wp2_with fail
  refine (few_any A n c w.heap.size l w1 (h.below hb1) hA hb1.size hn hc).mono ?_
  rintro e w2 ⟨A2, n2, c2, rfl, hown2, hb2⟩
  have hl2 : Bytes w2 w2.heap.size A2 n2 (l.take 200) := Bytes.own hown2
  have hb02 := bel_next hb1 hb2
  have hlen := hl2.len
  rw [hlen] at Hin
  clear hlen hown2 hl2 hb1 hb2
  have hr := read_bad A2 n2 c2 x w2 Hin.out
  clear Hin
  go_wp2_with fail
  refine hr.mono ?_
  rintro e w3 ⟨rfl, hw3⟩
  have hw3' := hw3.symm
  clear hw3 hr
  subst hw3'
  go_wp2
  go_ret
  exact ⟨rfl, hb02⟩
end Go.Proofs.YtchmchbgbchipaaDoor
