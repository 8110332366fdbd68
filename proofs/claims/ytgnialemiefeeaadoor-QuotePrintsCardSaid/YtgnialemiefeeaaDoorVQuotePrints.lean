import Derived.Test.YtgnialemiefeeaaDoorGal
import Derived.Test.YtgnialemiefeeaaDoorVQuoAA
/-
  The walk of QuotePrints.
-/
namespace Go.Proofs.YtgnialemiefeeaaDoor
open Go.RowKit
set_option linter.unusedVariables false

set_option maxRecDepth 20000 in
set_option maxHeartbeats 2000000 in
theorem quotePrints_walk (w : World) (s : ByteArray) (hs : s.size ≤ maxLen) (htab : UTab w) (hesc : ETab w) :
    Calls Tryd.prog 5 #[.string s] w fun e w' => e = .returned (.bool true) ∧ Below w.heap.size w w' := by
  unfold maxLen at hs
  go_enter Tryd.func5, Tryd.ntmps5
  go_wp2_with fail
  refine (wakes_any w htab hesc).mono ?_
  rintro e w1 ⟨rfl, hb1⟩
  have t1 := htab.below hb1 htab.lt
  have e1 := hesc.below hb1 hesc.lt
  go_upto_region 3 with fail
  go_cut [0] (fun s0 wx => w1 = wx ∧ ∃ S : ByteArray, s0 = .string S ∧ S.size ≤ 400)
  case first =>
    by_cases h400 : 400 < s.size
    · have j1 : (400 : Int) < (s.size : Int) := by omega
      go_wp2_with fail
      go_meet
      case rel => exact ⟨rfl, _, rfl, by rw [ByteArray.size_extract]; omega⟩
    · have j1 : ¬ (400 : Int) < (s.size : Int) := by omega
      go_wp2_with fail
      go_meet
      case rel => exact ⟨rfl, _, rfl, by omega⟩
  case rest =>
  obtain ⟨rfl, S, rfl, hSz⟩ := hcut
  obtain ⟨L, hS⟩ : ∃ L, S.data.toList = L := ⟨_, rfl⟩
  have hpr := print_any S _ hS w1 (by omega) t1 e1
  have hsize := fun (W : World) (hb : Below w1.heap.size w1 W) => qsize_any S _ hS W (by omega) (t1.below hb t1.lt) (e1.below hb e1.lt)
  have hLz := str_size S _ hS
  unfold printR at hpr
  unfold qsizeN at hsize
  by_cases hok : (ptsL L).2 = L.length
  · rw [if_pos hok] at hpr
    simp only [if_pos hok] at hsize
    have hcp : allCp (ptsL L).1 := (pts_is L.length L (Nat.le_refl _)).1
    have hcnt := text_count (ptsL L).1
    rw [← (pts_is L.length L (Nat.le_refl _)).2.2.1, hok] at hcnt
    have hql := quote_len (ptsL L).1
    have hqs := ofL_size (quoteL (ptsL L).1)
    have Hpt := Lib.hid (fun (W : World) (B' : Nat) (A' : Option Addr) (c' : Nat) (hl : Bytes W B' A' L.length L) (hB : B' ≤ W.heap.size) (hc' : L.length ≤ c') (hc2 : c' ≤ maxLen) => refPoints_any A' L.length c' B' L W hl hB (by omega) hc' hc2)
    unfold GivesPts at Hpt
    simp only [if_pos hok] at Hpt
    rw [hql] at hqs
    have hself : ((ofL (quoteL (ptsL L).1)).toList == (ofL (quoteL (ptsL L).1)).toList) = true := by simp
    have Hrp := Lib.hid (fun (A' : Option Addr) (n' c' : Nat) (W : World) (hl : Ints W W.heap.size A' n' (nats (ptsL L).1)) (hn' : n' ≤ 100000) => refPrint_any A' n' c' W.heap.size (ptsL L).1 W hl (Nat.le_refl _) hn' hcp)
    have Hnl := Lib.hid (nats_len (ptsL L).1)
    clear hql
    generalize (ptsL L).1 = cps at *
    generalize ofL (quoteL cps) = Q at *
    generalize (spellsL cps).length = k at *
    have Hqs := Lib.hid hqs
    have hqs' : ((Q.size : Nat) : Int) = ((k + 2 : Nat) : Int) := by rw [hqs]
    have HS := Lib.hid hS
    clear hqs hok hcp hS
    go_wp2_with fail
    with_reducible refine hpr.mono ?_
    rintro e w2 ⟨rfl, hb2⟩
    obtain ⟨c3, w3, hconv3, hl3, hc3a, hc3b, hb3⟩ := string_bytes (P := Tryd.prog) Tryd.underlying9 Tryd.underlying22 Tryd.underlying5 S L HS.out (by unfold maxLen; omega) w2
    have hpt := Hpt.out w3 w3.heap.size (some ⟨w2.heap.size, 0, none⟩) c3 hl3 (Nat.le_refl _) hc3a hc3b
    have hb13 := bel_next hb2 hb3
    clear hl3 hpr
    go_wp2_with fail
    with_reducible refine hpt.mono ?_
    rintro e w4 ⟨A4, n4, c4, hown4, hb4, rfl⟩
    have hb14 := bel_next hb13 hb4
    have hn4 : n4 ≤ 400 := by have := hown4.1; rw [List.length_map, Hnl.out] at this; omega
    have hrp := Hrp.out A4 n4 c4 w4 (Ints.own hown4) (by omega)
    clear hown4
    go_wp2_with fail
    with_reducible refine hrp.mono ?_
    rintro e w5 ⟨rfl, hb5⟩
    have hb15 := bel_next hb14 hb5
    have hsz := hsize _ hb15
    clear hsize
    go_wp2_with fail
    with_reducible refine hsz.mono ?_
    rintro e w6 ⟨rfl, hb6⟩
    go_wp2
    go_ret
    exact ⟨rfl, bel_next hb1 (bel_next hb15 hb6)⟩
  · rw [if_neg hok] at hpr
    simp only [if_neg hok] at hsize
    have Hpt := Lib.hid (fun (W : World) (B' : Nat) (A' : Option Addr) (c' : Nat) (hl : Bytes W B' A' L.length L) (hB : B' ≤ W.heap.size) (hc' : L.length ≤ c') (hc2 : c' ≤ maxLen) => refPoints_any A' L.length c' B' L W hl hB (by omega) hc' hc2)
    unfold GivesPts at Hpt
    simp only [if_neg hok] at Hpt
    have HS := Lib.hid hS
    generalize (ptsL L).2 = q at *
    clear hok hS
    go_wp2_with fail
    with_reducible refine hpr.mono ?_
    rintro e w2 ⟨rfl, hb2⟩
    obtain ⟨c3, w3, hconv3, hl3, hc3a, hc3b, hb3⟩ := string_bytes (P := Tryd.prog) Tryd.underlying9 Tryd.underlying22 Tryd.underlying5 S L HS.out (by unfold maxLen; omega) w2
    have hpt := Hpt.out w3 w3.heap.size (some ⟨w2.heap.size, 0, none⟩) c3 hl3 (Nat.le_refl _) hc3a hc3b
    have hb13 := bel_next hb2 hb3
    clear hl3 hpr
    go_wp2_with fail
    with_reducible refine hpt.mono ?_
    rintro e w4 ⟨A4, n4, c4, hown4, hb4, rfl⟩
    have hb14 := bel_next hb13 hb4
    have hsz := hsize _ hb14
    clear hsize hown4
    go_wp2_with fail
    with_reducible refine hsz.mono ?_
    rintro e w6 ⟨rfl, hb6⟩
    go_wp2
    go_ret
    exact ⟨rfl, bel_next hb1 (bel_next hb14 hb6)⟩
end Go.Proofs.YtgnialemiefeeaaDoor
