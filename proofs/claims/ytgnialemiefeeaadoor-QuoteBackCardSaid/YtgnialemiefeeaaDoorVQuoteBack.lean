import Derived.Test.YtgnialemiefeeaaDoorGal
import Derived.Test.YtgnialemiefeeaaDoorVCatB
import Derived.Deep.CutBlock
import Derived.Deep.DeepCutAuto
import Derived.Deep.RegionHeld3
/-
  The walk of QuoteBack.
-/
namespace Go.Proofs.YtgnialemiefeeaaDoor
open Go.RowKit
set_option linter.unusedVariables false

theorem text_of_ok {L : List UInt8} (hok : (ptsL L).2 = L.length) : textL (ptsL L).1 = L := by
  have h := (pts_is L.length L (Nat.le_refl _)).2.1
  rw [hok, List.drop_length, List.append_nil] at h
  exact h.symm
set_option maxRecDepth 20000 in
set_option maxHeartbeats 4000000 in
theorem quoteBack_walk (w : World) (s : ByteArray) (hs : s.size ≤ maxLen)
    (A : Option Addr) (n c : Nat) (l : List UInt8) (h : Bytes w w.heap.size A n l) (hA : A = none → c = 0) (hn : n ≤ c) (hc : c ≤ maxLen)
    (A' : Option Addr) (n' c' : Nat) (l' : List UInt8) (h' : Bytes w w.heap.size A' n' l') (hA' : A' = none → c' = 0) (hn' : n' ≤ c') (hc' : c' ≤ maxLen) (htab : UTab w) (hesc : ETab w) :
    Calls Tryd.prog 6 #[.string s, .slice A n c, .slice A' n' c'] w fun e w' => e = .returned (.bool true) ∧ Below w.heap.size w w' := by
  have hsm := hs
  unfold maxLen at hsm
  go_enter Tryd.func6, Tryd.ntmps6
  go_wp2_with fail
  refine (wakes_any w htab hesc).mono ?_
  rintro e w1 ⟨rfl, hb1⟩
  have t1 := htab.below hb1 htab.lt
  have e1 := hesc.below hb1 hesc.lt
  have Hf1 := Lib.hid (fun (W : World) (hb : Below w1.heap.size w1 W) => few_any A n c w.heap.size l W (h.below (bel_next hb1 hb)) hA (bel_next hb1 hb).size hn hc)
  have Hf2 := Lib.hid (fun (W : World) (hb : Below w1.heap.size w1 W) => few_any A' n' c' w.heap.size l' W (h'.below (bel_next hb1 hb)) hA' (bel_next hb1 hb).size hn' hc')
  clear htab hesc h h' hA hA' hn hn' hc hc'
  go_upto_region 3 with fail
  go_cut [0, 1, 2] (fun s0 s1 s2 wx => ∃ (S : ByteArray) (A1 : Option Addr) (n1 c1 : Nat) (A2 : Option Addr) (n2 c2 : Nat), s0 = .string S ∧ S.size ≤ 300 ∧ s1 = .slice A1 n1 c1 ∧ s2 = .slice A2 n2 c2 ∧ Bytes wx wx.heap.size A1 n1 (l.take 400) ∧ Bytes wx wx.heap.size A2 n2 (l'.take 400) ∧ Below w1.heap.size w1 wx)
  case first =>
    have hr1 : Below w1.heap.size w1 w1.drew := (Below.refl _ _).drew
    obtain ⟨ms, Em3, hms1, hms2⟩ : ∃ ms : Nat, min (s.size : Int) 300 = (ms : Int) ∧ ms ≤ s.size ∧ ms ≤ 300 := ⟨min s.size 300, by omega, by omega, by omega⟩
    have Em4 : (if (300 : Int) < (s.size : Int) then (300 : Int) else (s.size : Int)) = (ms : Int) := by split <;> omega
    have j1 : (0 : Int) ≤ (ms : Int) := by omega
    have j2 : (ms : Int) ≤ (s.size : Int) := by omega
    go_region_held3 (fun W => Below w1.heap.size w1 W) (first | (with_reducible assumption) | exact (Below.refl _ _).drew)
      (first
        | ((go_at_call 11; (with_reducible refine (Hf1.out _ (by with_reducible assumption)).mono ?_); (rintro e wA ⟨AA, nA, cA, rfl, hoA, hbA⟩); (have hSA := S_call hbA (by with_reducible assumption) rfl)))
        | ((go_at_call 11; (with_reducible refine (Hf2.out _ (by with_reducible assumption)).mono ?_); (rintro e wB ⟨AB, nB, cB, rfl, hoB, hbB⟩); (have hSB := S_call hbB (by with_reducible assumption) rfl))))
    all_goals
      go_wp2
      go_meet
      case rel =>
        refine ⟨_, AA, nA, cA, AB, nB, cB, rfl, by rw [ByteArray.size_extract]; omega, rfl, rfl, ?_, ?_, by first | assumption | exact Below.drew (by assumption)⟩
        · first | exact Bytes.own hoA | exact ((Bytes.own hoA).below hbB).more hbB.size
        · first | exact Bytes.own hoB | exact ((Bytes.own hoB).below hbA).more hbA.size
  case rest =>
  obtain ⟨S, A1, n1, c1, A2, n2, c2, rfl, hSz, rfl, rfl, hl1, hl2, hbc⟩ := hcut
  have hb0c := bel_next hb1 hbc
  have tc := t1.below hbc t1.lt
  have ec := e1.below hbc e1.lt
  obtain ⟨L, hS⟩ : ∃ L, S.data.toList = L := ⟨_, rfl⟩
  have hpr := print_any S _ hS wc (by omega) tc ec
  have hck := fun (W : World) (hb : Below wc.heap.size wc W) => check_any S _ hS W (by unfold maxLen; omega) (tc.below hb tc.lt)
  have hz1 : (l.take 400).length ≤ 400 := by rw [List.length_take]; omega
  have hz2 : (l'.take 400).length ≤ 400 := by rw [List.length_take]; omega
  generalize l.take 400 = pre at *
  generalize l'.take 400 = post at *
  clear t1 e1 hb1 hbc hs hsm Hf1 Hf2
  unfold printR at hpr
  unfold walkR at hck
  by_cases hok : (ptsL L).2 = L.length
  · rw [if_pos hok] at hpr
    have hcp : allCp (ptsL L).1 := (pts_is L.length L (Nat.le_refl _)).1
    have hcnt := text_count (ptsL L).1
    rw [← (pts_is L.length L (Nat.le_refl _)).2.2.1, hok] at hcnt
    have hql := quote_len (ptsL L).1
    have hsl := spells_len (ptsL L).1
    have hLz := str_size S _ hS
    have hqs := ofL_size (quoteL (ptsL L).1)
    have Hrd := Lib.hid (rd_quote pre post (ptsL L).1 hcp)
    have Htx := Lib.hid (show ofL (textL (ptsL L).1) = S by rw [text_of_ok hok, ← hS]; exact ofL_of S)
    have hself : (S.toList == S.toList) = true := by simp
    have hqz : (quoteL (ptsL L).1).length ≤ 1802 := by omega
    clear hck hok hcp hcnt hql hsl hLz
    generalize (ptsL L).1 = cps at *
    have Hqs := Lib.hid hqs
    have Hss := Lib.hid (ofL_toList (quoteL cps))
    clear hqs
    generalize ofL (quoteL cps) = Q at *
    go_wp2_with fail
    with_reducible refine hpr.mono ?_
    rintro e w2 ⟨rfl, hb2⟩
    obtain ⟨c3, w3, hconv3, hl3, hc3a, hc3b, hb3⟩ := string_bytes (P := Tryd.prog) Tryd.underlying9 Tryd.underlying22 Tryd.underlying5 Q (quoteL cps) Hss.out (by unfold maxLen; have := Hqs.out; omega) w2
    have hb03 := bel_next hb0c (bel_next hb2 hb3)
    have hbc3 := bel_next hb2 hb3
    have hlie := lieB_new w3 [⟨A1, n1, c1, pre⟩, ⟨some ⟨w2.heap.size, 0, none⟩, (quoteL cps).length, c3, quoteL cps⟩, ⟨A2, n2, c2, post⟩] #[.slice A1 n1 c1, .slice (some ⟨w2.heap.size, 0, none⟩) (quoteL cps).length c3, .slice A2 n2 c2] 22 rfl (by
      intro y hy
      simp only [List.mem_cons, List.not_mem_nil, or_false] at hy
      rcases hy with rfl | rfl | rfl
      · exact (hl1.below hbc3).more hbc3.size
      · exact hl3
      · exact (hl2.below hbc3).more hbc3.size)
    have hjoin : joinB [⟨A1, n1, c1, pre⟩, ⟨some ⟨w2.heap.size, 0, none⟩, (quoteL cps).length, c3, quoteL cps⟩, ⟨A2, n2, c2, post⟩] = pre ++ (quoteL cps ++ post) := by simp [joinB]
    have hjz : (pre ++ (quoteL cps ++ post)).length ≤ 2700 := by rw [List.length_append, List.length_append]; omega
    have hcat := concatB_any w3.heap.size _ 3 _ rfl (by omega) hlie (fun k => Nat.le_trans (joinB_le _ k) (by rw [hjoin]; omega)) (by simp)
    rw [hjoin] at hcat
    have HN1 := Lib.hid hl1.len
    have Hqn : Hid ((Q.size : Int) = ((quoteL cps).length : Int)) := Lib.hid (by rw [Hqs.out])
    clear hlie hjoin hl3 hc3a hc3b hl1 hl2 hpr Hqs Hss
    generalize hm : (quoteL cps).length = m at *
    clear hm
    go_wp2_with fail
    refine hcat.mono ?_
    rintro e w4 ⟨A4, n4, c4, rfl, hown4, hb4⟩
    have hb34 : Below w3.heap.size w3 w4 := ((Below.refl _ _).alloc (Nat.le_refl _) _).trans (hb4.mono (by simp))
    have hb04 := bel_next hb03 hb34
    have hbc4 := bel_next hbc3 hb34
    have hl4 : Bytes w4 w4.heap.size A4 n4 (pre ++ (quoteL cps ++ post)) := Bytes.own hown4
    have HL4 := Lib.hid hl4.len
    have hn4 : n4 ≤ 2700 := by rw [← HL4.out]; exact hjz
    obtain ⟨hnc4, hcm4⟩ : n4 ≤ c4 ∧ c4 ≤ maxLen := by obtain ⟨_, _, h1, h2, h3⟩ := own_form hown4; cases h1; exact ⟨h2, h3⟩
    have hp4 : n1 ≤ n4 := by rw [← HN1.out, ← HL4.out, List.length_append]; omega
    have hr4 := read_in A4 n4 c4 w4.heap.size n1 (pre ++ (quoteL cps ++ post)) w4 (tc.below hbc4 tc.lt) (ec.below hbc4 ec.lt) hl4 (Nat.le_refl _) (by omega) hnc4 hp4
    rw [readV_rd, ← HN1.out, Hrd.out, HN1.out] at hr4
    simp only at hr4
    rw [Htx.out, show ((n1 + m : Nat) : Int) = (n1 : Int) + (Q.size : Int) by rw [Hqn.out]; omega] at hr4
    have hq1 : Q.size ≤ 1802 := by have := Hqn.out; omega
    have hn1 : n1 ≤ 400 := by rw [← HN1.out]; exact hz1
    clear hcat hown4 hl4 hconv3 hnc4 hcm4 hp4 hb4 hjz hz1 hz2 hqz
    go_wp2_with fail
    refine hr4.mono ?_
    rintro e w5 ⟨rfl, hb5⟩
    go_wp2
    go_ret
    exact ⟨rfl, bel_next hb04 hb5⟩
  · rw [if_neg hok] at hpr
    simp only [if_neg hok] at hck
    generalize (ptsL L).2 = q at *
    clear hok
    go_wp2_with fail
    with_reducible refine hpr.mono ?_
    rintro e w2 ⟨rfl, hb2⟩
    have hck2 := hck _ hb2
    clear hck
    go_wp2_with fail
    with_reducible refine hck2.mono ?_
    rintro e w3 ⟨rfl, hb3⟩
    go_wp2
    go_ret
    exact ⟨rfl, bel_next hb0c (bel_next hb2 hb3)⟩
end Go.Proofs.YtgnialemiefeeaaDoor
