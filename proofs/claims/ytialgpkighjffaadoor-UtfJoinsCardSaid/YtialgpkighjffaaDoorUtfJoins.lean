/-
  The walk of UtfJoins.
-/
import Derived.Test.YtialgpkighjffaaDoorUtfTexts
import Derived.Test.YtialgpkighjffaaDoorCatI
namespace Go.Proofs.YtialgpkighjffaaDoor
open Go.RowKit
set_option linter.unusedVariables false

theorem pts_front (l : List UInt8) : ptsL (l.take (ptsL l).2) = ((ptsL l).1, (ptsL l).2) ∧ (l.take (ptsL l).2).length = (ptsL l).2 := by
  obtain ⟨h1, h2, h3, -⟩ := pts_is l.length l (Nat.le_refl _)
  have e : l.take (ptsL l).2 = textL (ptsL l).1 := by
    have := congrArg (List.take (ptsL l).2) h2
    rw [this, List.take_append_of_le_length (by omega), List.take_of_length_le (by omega)]
  have hp := pts_text (ptsL l).1 [] h1
  rw [List.append_nil, pts_zero (l := []) rfl, List.append_nil, Nat.add_zero, ← h3] at hp
  rw [e]
  exact ⟨hp, h3.symm⟩
theorem pts_join (l m : List UInt8) (h : (ptsL l).2 = l.length) : ptsL (l ++ m) = ((ptsL l).1 ++ (ptsL m).1, l.length + (ptsL m).2) := by
  obtain ⟨h1, h2, h3, -⟩ := pts_is l.length l (Nat.le_refl _)
  have e : l = textL (ptsL l).1 := by
    rw [h, List.drop_of_length_le (Nat.le_refl _), List.append_nil] at h2
    exact h2
  have hp := pts_text (ptsL l).1 m h1
  rw [← e] at hp
  exact hp
theorem pts_count (l : List UInt8) : (ptsL l).1.length ≤ l.length := by
  have hle := pts_le l
  obtain ⟨-, -, h2, -⟩ := pts_is l.length l (Nat.le_refl _)
  have : ∀ m : List Nat, m.length ≤ (textL m).length := by
    intro m
    induction m with
    | nil => simp
    | cons c m ih => rw [textL_cons, List.length_append, List.length_cons]; have := encL_len_pos c; omega
  have := this (ptsL l).1
  omega
theorem str_append (s t : ByteArray) (l m : List UInt8) (hs : s.data.toList = l) (ht : t.data.toList = m) : (s ++ t).data.toList = l ++ m := by
  rw [ByteArray.data_append, Array.toList_append, hs, ht]

set_option maxRecDepth 20000 in
set_option maxHeartbeats 2000000 in
theorem utfJoins_walk (w : World) (s : ByteArray) (hs : s.size ≤ maxLen) (t : ByteArray) (ht : t.size ≤ maxLen) (htab : UTab w) :
    Calls Tryd.prog 9 #[.string s, .string t] w fun e w' => e = .returned (.bool true) ∧ Below w.heap.size w w' := by
  unfold maxLen at hs ht
  obtain ⟨ms, Hms, hms1, hms2⟩ : ∃ ms : Nat, Hid (min (s.size : Int) 200 = (ms : Int)) ∧ ms ≤ s.size ∧ ms ≤ 200 := ⟨min s.size 200, Lib.hid (by omega), by omega, by omega⟩
  obtain ⟨mt, Hmt, hmt1, hmt2⟩ : ∃ mt : Nat, Hid (min (t.size : Int) 200 = (mt : Int)) ∧ mt ≤ t.size ∧ mt ≤ 200 := ⟨min t.size 200, Lib.hid (by omega), by omega, by omega⟩
  go_enter Tryd.func9, Tryd.ntmps9
  go_wp2_with fail
  refine (wakes_any w htab).mono ?_
  rintro e w1 ⟨rfl, hb1⟩
  have t1 := htab.below hb1 htab.lt
  go_wp2_with fail
  go_upto_region 3 with fail
  go_cut [0, 1] (fun s0 s1 wx => s0 = .string (s.extract 0 ms) ∧ s1 = .string (t.extract 0 mt) ∧ Below w1.heap.size w1 wx)
  case first =>
    have Em3 := Hms.out
    have Em4 := Hmt.out
    have j1 : (0 : Int) ≤ (ms : Int) := by omega
    have j2 : (ms : Int) ≤ (s.size : Int) := by omega
    have j3 : (0 : Int) ≤ (mt : Int) := by omega
    have j4 : (mt : Int) ≤ (t.size : Int) := by omega
    go_region_held3 (fun w' => True) (trivial) (fail)
    all_goals
      go_wp2_with fail
      go_meet
      case rel => exact ⟨rfl, rfl, below_drewN (Below.refl _ _) _⟩
  case rest =>
    obtain ⟨rfl, rfl, hb12⟩ := hcut
    clear Hms Hmt
    have hS := front_str s s.data.toList ms rfl
    have hT := front_str t t.data.toList mt rfl
    have hSz : (s.extract 0 ms).size ≤ 200 := by
      have := str_size (s.extract 0 ms) _ hS
      rw [this, List.length_take]
      omega
    have hTz : (t.extract 0 mt).size ≤ 200 := by
      have := str_size (t.extract 0 mt) _ hT
      rw [this, List.length_take]
      omega
    generalize s.extract 0 ms = S at *
    generalize s.data.toList.take ms = L at *
    generalize t.extract 0 mt = T at *
    generalize t.data.toList.take mt = M at *
    clear hs hms1 hms2 ht hmt1 hmt2
    have HLz := Lib.hid (str_size S L hS)
    have HMz := Lib.hid (str_size T M hT)
    have hb02 := bel_next hb1 hb12
    have t2 := t1.below hb12 t1.lt
    clear hb1 hb12 t1 htab
    by_cases h1 : (ptsL L).2 = L.length
    · have hj := pts_join L M h1
      have hcL := pts_count L
      have hcM := pts_count M
      have hpS := fun W hW => (points_cases S L hS W (by omega) hW true (decide_eq_true h1) 0 rfl 0 rfl (nats (ptsL L).1) rfl).1
      have hST := str_append S T L M hS hT
      have hlst : (L ++ M).length = L.length + M.length := List.length_append
      have hSTz : (S ++ T).size ≤ 400 := by rw [str_size _ _ hST, hlst, ← HLz.out, ← HMz.out]; omega
      by_cases h2 : (ptsL M).2 = M.length
      · have hpT := fun W hW => (points_cases T M hT W (by omega) hW true (decide_eq_true h2) 0 rfl 0 rfl (nats (ptsL M).1) rfl).1
        have hpA := fun W hW => (points_cases (S ++ T) (L ++ M) hST W (by omega) hW true (decide_eq_true (by rw [hj, hlst, h2])) 0 rfl 0 rfl (nats (ptsL L).1 ++ nats (ptsL M).1) (by rw [hj]; simp [nats])).1
        have hP : (nats (ptsL L).1).length ≤ 200 := by rw [nats_len]; have := HLz.out; omega
        have hQ : (nats (ptsL M).1).length ≤ 200 := by rw [nats_len]; have := HMz.out; omega
        clear hj hcL hcM hlst h1 h2 HLz HMz
        generalize nats (ptsL L).1 = P at *
        generalize nats (ptsL M).1 = Q at *
        go_wp2_with fail
        refine (hpS _ t2).mono ?_
        rintro e w3 ⟨A3, n3, c3, rfl, hP3, hn3, hb3⟩
        have t3 := t2.below hb3 t2.lt
        go_wp2_with fail
        refine (hpT _ t3).mono ?_
        rintro e w4 ⟨A4, n4, c4, rfl, hQ4, hn4, hb4⟩
        have t4 := t3.below hb4 t3.lt
        go_wp2_with fail
        refine (hpA _ t4).mono ?_
        rintro e w5 ⟨A5, n5, c5, rfl, hR5, hn5, hb5⟩
        have hP5 := hP3.below (hb4.trans (hb5.mono hb4.size))
        have hQ5 := hQ4.below hb5
        have hm3 : n3 ≤ 400 := by rw [← hP5.len]; omega
        have hm4 : n4 ≤ 400 := by rw [← hQ5.len]; omega
        have s3 := Nat.le_trans hb4.size hb5.size
        have s4 := hb5.size
        have hb05 := bel_next hb02 (bel_next hb3 (bel_next hb4 hb5))
        clear hP3 hQ4 hb3 hb4 hb5 t2 t3 t4 hpS hpT hpA hb02 hP hQ
        go_wp2_with fail
        refine (concatI_any w5.heap.size A3 A4 n3 n4 c3 c4 P Q _ ((hP5.alloc s3 _).more (by simp; omega)) ((hQ5.alloc s4 _).more (by simp; omega)) hm3 hm4 (by go_simp) (by go_simp)).mono ?_
        rintro e w6 ⟨A6, n6, c6, rfl, hown6, hb6⟩
        have hb56 : Below w5.heap.size w5 w6 := ((Below.refl _ _).alloc (Nat.le_refl _) _).trans (hb6.mono (by simp))
        go_wp2_with fail
        refine (equalI_any A5 A6 n5 c5 n6 c6 (P ++ Q) (P ++ Q) w5.heap.size w6.heap.size w6 (hR5.below hb56) (Ints.own hown6) (by unfold maxLen; omega)).mono ?_
        rintro e w7 ⟨rfl, k7, rfl⟩
        rw [show sameI (P ++ Q) (P ++ Q) = true from decide_eq_true rfl]
        go_wp2
        go_ret
        exact ⟨rfl, below_drewN (bel_next hb05 hb56) _⟩
      · have hpT := fun W hW => (points_cases T M hT W (by omega) hW false (decide_eq_false h2) ((ptsL M).2 : Int) rfl 110 rfl [] rfl).1
        have hpA := fun W hW => (points_cases (S ++ T) (L ++ M) hST W (by omega) hW false (decide_eq_false (by rw [hj, hlst]; simp only; omega)) ((S.size : Int) + ((ptsL M).2 : Int)) (by rw [hj, HLz.out]; simp) 110 rfl [] rfl).1
        have hle := pts_le M
        have hm : (ptsL M).2 ≤ 200 := by have := HMz.out; omega
        clear hj hcL hcM hlst h1 h2 HLz HMz hle
        generalize (ptsL M).2 = q at *
        go_wp2_with fail
        refine (hpS _ t2).mono ?_
        rintro e w3 ⟨A3, n3, c3, rfl, hP3, hn3, hb3⟩
        have t3 := t2.below hb3 t2.lt
        go_wp2_with fail
        refine (hpT _ t3).mono ?_
        rintro e w4 ⟨A4, n4, c4, rfl, hQ4, hn4, hb4⟩
        have t4 := t3.below hb4 t3.lt
        go_wp2_with fail
        refine (hpA _ t4).mono ?_
        rintro e w5 ⟨A5, n5, c5, rfl, hR5, hn5, hb5⟩
        have hz : (n5 : Int) = 0 := by have := hR5.len; simp at this; omega
        have hb05 := bel_next hb02 (bel_next hb3 (bel_next hb4 hb5))
        clear hP3 hQ4 hR5 hb3 hb4 hb5 t2 t3 t4 hpS hpT hpA hb02
        go_wp2
        go_ret
        exact ⟨rfl, hb05⟩
    · have hpS := fun W hW => (points_cases S L hS W (by omega) hW false (decide_eq_false h1) ((ptsL L).2 : Int) rfl 110 rfl [] rfl).1
      have hle := pts_le L
      have hq : (ptsL L).2 < S.size := by rw [HLz.out]; omega
      obtain ⟨f1, f2⟩ := pts_front L
      have hF := front_str S L (ptsL L).2 hS
      have hFz := str_size _ _ hF
      rw [f2] at hFz
      have hpF := fun W hW => points_cases (S.extract 0 (ptsL L).2) (L.take (ptsL L).2) hF W (by rw [hFz]; omega) hW true (decide_eq_true (by rw [f1, f2])) 0 rfl 0 rfl (nats (ptsL L).1) (by rw [f1]; rfl)
      clear hF hFz f1 f2 hle h1 HLz
      generalize (ptsL L).2 = q at *
      have j1 : (0 : Int) ≤ (q : Int) := by omega
      have j2 : (q : Int) ≤ (S.size : Int) := by omega
      have j3 : (q : Int) < (S.size : Int) := by omega
      go_wp2_with fail
      refine (hpS _ t2).mono ?_
      rintro e w3 ⟨A3, n3, c3, rfl, hP3, hn3, hb3⟩
      have t3 := t2.below hb3 t2.lt
      go_wp2_with fail
      refine (hpF _ t3).1.mono ?_
      rintro e w4 ⟨A4, n4, c4, rfl, hQ4, hn4, hb4⟩
      have t4 := t3.below hb4 t3.lt
      go_wp2_with fail
      refine (hpF _ t4).2.mono ?_
      rintro e w5 ⟨rfl, hb5⟩
      have hb05 := bel_next hb02 (bel_next hb3 (bel_next hb4 hb5))
      clear hP3 hQ4 hb3 hb4 hb5 t2 t3 t4 hpS hpF hb02
      go_wp2
      go_ret
      exact ⟨rfl, hb05⟩
end Go.Proofs.YtialgpkighjffaaDoor
