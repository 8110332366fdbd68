/-
  The walk of NumeralReads.
-/
import Derived.Test.YtchmchbgbchipaaDoorNumG
import Derived.Test.YtchmchbgbchipaaDoorNumW
import Derived.Test.YtchmchbgbchipaaDoorEq
namespace Go.Proofs.YtchmchbgbchipaaDoor
open Go.RowKit
set_option linter.unusedVariables false

set_option maxRecDepth 20000 in
set_option maxHeartbeats 2000000 in
theorem reads_in (w : World) (A : Option Addr) (n c : Nat) (l : List UInt8) (h : Bytes w w.heap.size A n l) (hA : A = none → c = 0) (hn : n ≤ c) (hc : c ≤ maxLen) (p : Nat) (hp : p ≤ (l.take 200).length) (hv : NVars w) :
    Calls Tryd.prog 3 #[.slice A n c, .int .i64 (p : Int)] w fun e w' => e = .returned (.bool true) ∧ Below w.heap.size w w' := by
  go_enter Tryd.func3, Tryd.ntmps3
  go_wp2_with fail
  refine (wakes_any w hv).mono ?_
  rintro e w1 ⟨rfl, hb1⟩
  have v1 := hv.next hb1
  go_wp2_with fail
  refine (few_any A n c w.heap.size l w1 (h.below hb1) hA hb1.size hn hc).mono ?_
  rintro e w2 ⟨A2, n2, c2, rfl, hown2, hb2⟩
  have v2 := v1.next hb2
  have hl2 : Bytes w2 w2.heap.size A2 n2 (l.take 200) := Bytes.own hown2
  have Hl2 := Lib.hid hl2.len
  have hn2 : n2 ≤ 200 := by rw [← Hl2.out, List.length_take]; omega
  have hpn : p ≤ n2 := by rw [← Hl2.out]; exact hp
  have hb02 := bel_next hb1 hb2
  obtain ⟨hnc, hcm⟩ : n2 ≤ c2 ∧ c2 ≤ maxLen := by obtain ⟨_, _, h1, h2, h3⟩ := own_form hown2; cases h1; exact ⟨h2, h3⟩
  unfold maxLen at hcm
  have hrd := read_in A2 n2 c2 w2.heap.size p (l.take 200) w2 v2 hl2 (Nat.le_refl _) (by omega) hnc hpn
  have hen := fun W hW => end_any A2 n2 c2 w2.heap.size p (l.take 200) W (hl2.below hW) hpn (by omega)
  have i0 : (0 : Int) ≤ (p : Int) := by omega
  have i4 : ¬ (p : Int) < 0 := by omega
  have i5 : ¬ (n2 : Int) < (p : Int) := by omega
  clear hown2 hb1 hb2 v1 hv hp
  generalize hL : l.take 200 = L at *
  have HL := Lib.hid hL
  clear hL
  unfold Reads at hrd
  cases hok : (scanP L p).2.2
  · rw [readT_no hok] at hrd
    have he : endR L p = .tuple #[.int .i64 ((scanP L p).1 : Int), .bool false, .bool false] := by unfold endR; rw [hok]; rfl
    rw [he] at hen
    clear hok he
    generalize (scanP L p).1 = q at *
    go_wp2_with fail
    refine hrd.mono ?_
    rintro e w3 ⟨rfl, hb3⟩
    go_wp2_with fail
    refine (hen _ hb3).mono ?_
    rintro e w4 ⟨rfl, k4, rfl⟩
    go_wp2
    go_ret
    exact ⟨rfl, below_drewN (bel_next hb02 hb3) _⟩
  · cases hpart : (scanP L p).2.1
    · obtain ⟨neg, ds, hsh, hdg, hne, -, -, -⟩ := plain_bytes hok hpart
      have hle := scan_le L p (by rw [Hl2.out]; exact hpn)
      have hgt := scan_gt hok
      have he : endR L p = .tuple #[.int .i64 ((scanP L p).1 : Int), .bool true, .bool true] := by unfold endR; rw [hok, hpart]; rfl
      have hpn2 := parse_num neg ds hdg hne
      rw [he] at hen
      rw [Hl2.out] at hle
      have hcut := fun {W : World} (hb : Below w2.heap.size w2 W) => by
        have hq := ((hl2.below hb).cut (k := p) (cap := c2) (by omega) hnc)
        rw [if_neg (show ¬ c2 = p by omega)] at hq
        have hq := hq.first (k := (scanP L p).1 - p) (by omega)
        rw [hsh] at hq
        exact hq
      have hnum := fun W (hb : Below w2.heap.size w2 W) => number_any (A2.map (·.add p)) ((scanP L p).1 - p) (c2 - p) w2.heap.size neg ds W (hcut hb) hdg hne (by omega)
      have hne2 : ¬ c2 = p := by omega
      have j1 : (p : Int) ≤ ((scanP L p).1 : Int) := by omega
      have j2 : ((scanP L p).1 : Int) ≤ (c2 : Int) := by omega
      have hnl : numL L p = withSign neg ds := hsh
      rcases hR : numR neg ds with _ | v
      · rw [hR] at hpn2 hnum
        rw [readT_bad hok (by rw [hnl, hpn2]; intro v e; cases e)] at hrd
        simp only [numT] at hnum
        clear hok hpart hcut he hpn2 hR hsh hnl hdg hne
        generalize (scanP L p).1 = q at *
        go_wp2_with fail
        refine hrd.mono ?_
        rintro e w3 ⟨rfl, hb3⟩
        go_wp2_with fail
        refine (hen _ hb3).mono ?_
        rintro e w4 ⟨rfl, k4, rfl⟩
        go_wp2_with fail
        refine (hnum _ (below_drewN hb3 k4)).mono ?_
        rintro e w5 ⟨rfl, hw5⟩
        have hw5' := hw5.symm
        clear hw5
        subst hw5'
        go_wp2
        go_ret
        exact ⟨rfl, below_drewN (bel_next hb02 hb3) _⟩
      · rw [hR] at hpn2 hnum
        rw [readT_ok hok hpart (by rw [hnl, hpn2]; rfl)] at hrd
        simp only [numT] at hnum
        clear hok hpart hcut he hpn2 hR hsh hnl hdg hne
        generalize (scanP L p).1 = q at *
        go_wp2_with fail
        refine hrd.mono ?_
        rintro e w3 ⟨rfl, hb3⟩
        go_wp2_with fail
        refine (hen _ hb3).mono ?_
        rintro e w4 ⟨rfl, k4, rfl⟩
        go_wp2_with fail
        refine (hnum _ (below_drewN hb3 k4)).mono ?_
        rintro e w5 ⟨rfl, hw5⟩
        have hw5' := hw5.symm
        clear hw5
        subst hw5'
        have hb23 : Below w2.heap.size w2 (w3.drewN k4) := below_drewN hb3 k4
        have hb03 : Below w.heap.size w (w3.drewN k4) := bel_next hb02 hb23
        clear hb3 hen hnum hrd
        generalize w3.drewN k4 = W at *
        go_wp2_with fail
        refine (few_any A n c w.heap.size l W (h.below hb03) hA hb03.size hn hc).mono ?_
        rintro e w6 ⟨A6, n6, c6, rfl, hown6, hb6⟩
        rw [HL.out] at hown6
        have hn6 : n6 ≤ 200 := by have h1 := hown6.1; have h2 := Hl2.out; rw [List.length_map] at h1; omega
        go_wp2_with fail
        refine (equal_any A2 A6 n2 c2 n6 c6 _ _ w2.heap.size w6.heap.size w6 (hl2.below (bel_next hb23 hb6)) (Bytes.own hown6) (by unfold maxLen; omega) (by unfold maxLen; omega)).mono ?_
        rintro e w7 ⟨rfl, k7, rfl⟩
        rw [show sameB L L = true from decide_eq_true rfl]
        go_wp2
        go_ret
        exact ⟨rfl, below_drewN (bel_next hb03 hb6) _⟩
    · rw [readT_part hok hpart] at hrd
      have he : endR L p = .tuple #[.int .i64 ((scanP L p).1 : Int), .bool false, .bool true] := by unfold endR; rw [hok, hpart]; rfl
      rw [he] at hen
      clear hok he hpart
      generalize (scanP L p).1 = q at *
      go_wp2_with fail
      refine hrd.mono ?_
      rintro e w3 ⟨rfl, hb3⟩
      go_wp2_with fail
      refine (hen _ hb3).mono ?_
      rintro e w4 ⟨rfl, k4, rfl⟩
      go_wp2
      go_ret
      exact ⟨rfl, below_drewN (bel_next hb02 hb3) _⟩

set_option maxRecDepth 20000 in
set_option maxHeartbeats 2000000 in
theorem numeralReads_walk (w : World) (A : Option Addr) (n c : Nat) (l : List UInt8) (h : Bytes w w.heap.size A n l) (hA : A = none → c = 0) (hn : n ≤ c) (hc : c ≤ maxLen) (x : Int) (hx : (Lit.int .i64 x).wf = true) (hv : NVars w) :
    Calls Tryd.prog 3 #[.slice A n c, .int .i64 x] w fun e w' => e = .returned (.bool true) ∧ Below w.heap.size w w' := by
  clear hx
  by_cases hin : 0 ≤ x ∧ x ≤ ((l.take 200).length : Int)
  · obtain ⟨p, rfl⟩ : ∃ p : Nat, x = (p : Int) := ⟨x.toNat, by omega⟩
    exact reads_in w A n c l h hA hn hc p (by omega) hv
  have Hin := Lib.hid (show x < 0 ∨ ((l.take 200).length : Int) < x by omega)
  clear hin
  go_enter Tryd.func3, Tryd.ntmps3
  go_wp2_with fail
  refine (wakes_any w hv).mono ?_
  rintro e w1 ⟨rfl, hb1⟩
  go_wp2_with fail
  refine (few_any A n c w.heap.size l w1 (h.below hb1) hA hb1.size hn hc).mono ?_
  rintro e w2 ⟨A2, n2, c2, rfl, hown2, hb2⟩
  have hl2 : Bytes w2 w2.heap.size A2 n2 (l.take 200) := Bytes.own hown2
  have hb02 := bel_next hb1 hb2
  have hlen := hl2.len
  rw [hlen] at Hin
  clear hlen hown2 hl2 hb1 hb2
  have hr := read_bad A2 n2 c2 x w2 Hin.out
  go_wp2_with fail
  refine hr.mono ?_
  rintro e w3 ⟨rfl, hw3⟩
  have hw3' := hw3.symm
  clear hw3 hr
  subst hw3'
  rcases Hin.out with h0 | h0
  · clear Hin
    go_wp2
    go_ret
    exact ⟨rfl, hb02⟩
  · clear Hin
    have h1 : ¬ x < 0 := by omega
    go_wp2
    go_ret
    exact ⟨rfl, hb02⟩
end Go.Proofs.YtchmchbgbchipaaDoor
