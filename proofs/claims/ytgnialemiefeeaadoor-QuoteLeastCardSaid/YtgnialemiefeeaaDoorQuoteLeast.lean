/-
  The walks of QuoteCuts and QuoteLeast.
-/
import Derived.Test.YtgnialemiefeeaaDoorQuoteReads
import Derived.Test.YtgnialemiefeeaaDoorSb
namespace Go.Proofs.YtgnialemiefeeaaDoor
open Go.RowKit
set_option linter.unusedVariables false

/-- What a right literal is. -/
theorem rd_ok {l : List UInt8} {p : Nat} (h : (rdL l p).2.2 = 0) : p < l.length ∧ at0 l p = 34 ∧ ∃ q, sgsL (l.drop (p + 1)) = ((rdL l p).1, q - (p + 1)) ∧ p + 1 ≤ q ∧ q < l.length ∧ at0 l q = 34 ∧ rdL l p = ((rdL l p).1, q + 1, 0) := by
  unfold rdL at h ⊢
  split at h
  · cases h
  · rename_i h1
    split at h
    · cases h
    · rename_i h2
      simp only at h
      split at h
      · rename_i h3
        rw [if_neg h1, if_neg h2]
        simp only
        rw [if_pos h3]
        exact ⟨by omega, by omega, p + 1 + (sgsL (l.drop (p + 1))).2, by rw [show p + 1 + (sgsL (l.drop (p + 1))).2 - (p + 1) = (sgsL (l.drop (p + 1))).2 by omega], by omega, h3.1, h3.2, rfl⟩
      · exfalso
        rename_i h3
        simp only at h
        unfold faultN at h
        split at h
        · cases h
        · split at h <;> cases h
theorem rd_bad {l : List UInt8} {p : Nat} (h : (rdL l p).2.2 ≠ 0) (hp : p ≤ l.length) : (rdL l p).1 = [] ∧ (rdL l p).2.1 ≤ l.length := by
  have hs := (sgs_is (l.drop (p + 1)).length (l.drop (p + 1)) (Nat.le_refl _)).2.1
  rw [List.length_drop] at hs
  unfold rdL at h ⊢
  split at h
  · rename_i h1; rw [if_pos h1]; exact ⟨rfl, hp⟩
  · rename_i h1
    rw [if_neg h1]
    split at h
    · rename_i h2; rw [if_pos h2]; exact ⟨rfl, hp⟩
    · rename_i h2
      rw [if_neg h2]
      simp only at h ⊢
      split at h
      · exact absurd rfl h
      · rename_i h3; rw [if_neg h3]; exact ⟨rfl, by simp only; omega⟩
/-- A quoted text is read as what it says, whatever stands around it. -/
theorem rd_quote (pre post : List UInt8) (cps : List Nat) (h : allCp cps) : rdL (pre ++ (quoteL cps ++ post)) pre.length = (cps, pre.length + (quoteL cps).length, 0) := by
  have e : (pre ++ (quoteL cps ++ post)).drop (pre.length + 1) = spellsL cps ++ (b8 34 :: post) := by
    rw [← List.drop_drop, List.drop_left]; simp [quoteL]
  have hs := sgs_quote cps post h
  have hl := quote_len cps
  have a0 : at0 (pre ++ (quoteL cps ++ post)) pre.length = 34 := by
    have := at0_drop (pre ++ (quoteL cps ++ post)) pre.length 0
    rw [List.drop_left, Nat.add_zero] at this
    rw [← this]; rfl
  have a1 : at0 (pre ++ (quoteL cps ++ post)) (pre.length + 1 + (spellsL cps).length) = 34 := by
    have := at0_drop (pre ++ (quoteL cps ++ post)) (pre.length + 1) (spellsL cps).length
    rw [e] at this
    rw [← this, show (spellsL cps).length = (spellsL cps).length + 0 by omega, ← at0_drop, List.drop_left]; rfl
  have hlen : (pre ++ (quoteL cps ++ post)).length = pre.length + ((spellsL cps).length + 2) + post.length := by rw [List.length_append, List.length_append, hl]; omega
  rw [rd_is (q := pre.length + 1 + (spellsL cps).length) (cps := cps) (by rw [hlen]; omega) a0 (by omega) (by rw [e, hs]; congr 1; omega), if_pos ⟨by rw [hlen]; omega, a1⟩, hl]
  congr 2
  omega
theorem rd_quote0 (cps : List Nat) (h : allCp cps) : rdL (quoteL cps) 0 = (cps, (quoteL cps).length, 0) := by
  have := rd_quote [] [] cps h
  simpa using this
/-- No proper front of a right literal is one. -/
theorem rd_front {l : List UInt8} {n : Nat} (h : (rdL l 0).2.2 = 0) (hn : n < (rdL l 0).2.1) : (rdL (l.take n) 0).2.2 ≠ 0 := by
  intro h'
  obtain ⟨h1, h2, q, h3, h4, h5, h6, h7⟩ := rd_ok h
  obtain ⟨k1, k2, r, k3, k4, k5, k6, k7⟩ := rd_ok h'
  rw [h7] at hn
  simp only at hn
  rw [List.length_take] at k5
  have e : l.drop (0 + 1) = (l.take n).drop (0 + 1) ++ l.drop n := by
    have e0 := congrArg (List.drop (0 + 1)) (List.take_append_drop n l)
    rw [List.drop_append_of_le_length (by rw [List.length_take]; omega)] at e0
    exact e0.symm
  have hm := sgs_more ((l.take n).drop (0 + 1)).length ((l.take n).drop (0 + 1)) (l.drop n) (Nat.le_refl _) (by rw [k3, List.length_drop, List.length_take]; simp only; omega) (by rw [k3]; simp only; rw [at0_drop, show 0 + 1 + (r - (0 + 1)) = r by omega]; exact k6)
  rw [← e, h3, k3] at hm
  have := congrArg Prod.snd hm
  simp only at this
  omega
theorem pts_textL (cps : List Nat) (h : allCp cps) : ptsL (textL cps) = (cps, (textL cps).length) := pts_of cps [] _ h rfl (by simp)
theorem print_textL (cps : List Nat) (h : allCp cps) : printR (textL cps) = .tuple #[.string (ofL (quoteL cps)), .int .i64 0] := by
  unfold printR
  rw [pts_textL cps h, if_pos rfl]
theorem textL_le4 : ∀ m : List Nat, (textL m).length ≤ 4 * m.length
  | [] => Nat.zero_le _
  | c :: m => by
    have := textL_le4 m
    have := (encL_len_pos c).2
    rw [textL_cons, List.length_append, List.length_cons]
    omega
theorem quote_le {l : List UInt8} (h : (rdL l 0).2.2 = 0) : (quoteL (rdL l 0).1).length ≤ (rdL l 0).2.1 := by
  obtain ⟨h1, h2, q, h3, h4, h5, h6, h7⟩ := rd_ok h
  have := sgs_least (l.drop (0 + 1)).length (l.drop (0 + 1)) (Nat.le_refl _)
  rw [h3] at this
  simp only at this
  rw [h7, quote_len]
  simp only
  rw [h7] at this
  simp only at this
  omega

set_option maxRecDepth 20000 in
set_option maxHeartbeats 2000000 in
theorem quoteLeast_walk (w : World) (A : Option Addr) (n c : Nat) (l : List UInt8) (h : Bytes w w.heap.size A n l) (hA : A = none → c = 0) (hn : n ≤ c) (hc : c ≤ maxLen) (htab : UTab w) (hesc : ETab w) :
    Calls Tryd.prog 8 #[.slice A n c] w fun e w' => e = .returned (.bool true) ∧ Below w.heap.size w w' := by
  go_enter Tryd.func8, Tryd.ntmps8
  go_wp2_with fail
  refine (wakes_any w htab hesc).mono ?_
  rintro e w1 ⟨rfl, hb1⟩
  have t1 := htab.below hb1 htab.lt
  have e1 := hesc.below hb1 hesc.lt
  have h1 := h.below hb1
  have s1 := hb1.size
  go_wp2_with fail
  refine (few_any A n c w.heap.size l w1 h1 hA s1 hn hc).mono ?_
  rintro e w2 ⟨A2, n2, c2, rfl, hown2, hb2⟩
  have t2 := t1.below hb2 t1.lt
  have e2 := e1.below hb2 e1.lt
  have hl2 : Bytes w2 w2.heap.size A2 n2 (l.take 400) := Bytes.own hown2
  have Hl2 := Lib.hid hl2.len
  have hn2 : n2 ≤ 400 := by rw [← Hl2.out, List.length_take]; omega
  have hb02 := bel_next hb1 hb2
  obtain ⟨hnc, hcm⟩ : n2 ≤ c2 ∧ c2 ≤ maxLen := by obtain ⟨_, _, h1, h2, h3⟩ := own_form hown2; cases h1; exact ⟨h2, h3⟩
  have hrd := read_in A2 n2 c2 w2.heap.size 0 (l.take 400) w2 t2 e2 hl2 (Nat.le_refl _) (by omega) hnc (Nat.zero_le _)
  rw [readV_rd] at hrd
  clear hown2 hb1 hb2 h1 t1 e1 hA hn hc h hcm hl2
  generalize l.take 400 = l at *
  by_cases hok : (rdL l 0).2.2 = 0
  · have Hcps := Lib.hid (rd_cps l 0)
    have hle := quote_le hok
    have hfw := rd_few l 0
    rw [Hl2.out] at hfw
    obtain ⟨-, -, q, -, -, hq, -, hq2⟩ := rd_ok hok
    have hqn : (rdL l 0).2.1 ≤ n2 := by rw [hq2]; simp only; have := Hl2.out; omega
    rw [hok] at hrd
    clear hok hq hq2
    generalize (rdL l 0).1 = cps at *
    generalize (rdL l 0).2.1 = nx at *
    have hsz : (ofL (textL cps)).size ≤ 1600 := by rw [ofL_size]; have := (textL_le4 cps); omega
    have hpr := fun (W : World) (hb : Below w2.heap.size w2 W) => print_any (ofL (textL cps)) (textL cps) (ofL_toList _) W (by omega) (t2.below hb t2.lt) (e2.below hb e2.lt)
    rw [print_textL cps Hcps.out] at hpr
    have hqs := ofL_size (quoteL cps)
    have Hrq := Lib.hid (rd_quote0 cps Hcps.out)
    have Hss := Lib.hid (ofL_toList (quoteL cps))
    have hself : ((ofL (textL cps)).toList == (ofL (textL cps)).toList) = true := by simp
    have Hrv := Lib.hid (readV_rd (quoteL cps) 0)
    rw [Hrq.out] at Hrv
    generalize ofL (textL cps) = T at *
    generalize hQ : ofL (quoteL cps) = S at *
    clear hQ
    generalize hm : (quoteL cps).length = m at *
    go_wp2_with fail
    refine hrd.mono ?_
    rintro e w3 ⟨rfl, hb3⟩
    go_wp2_with fail
    refine (hpr _ hb3).mono ?_
    rintro e w4 ⟨rfl, hb4⟩
    have hb24 := bel_next hb3 hb4
    obtain ⟨c5, w5, hconv5, hl5, hc5a, hc5b, hb5⟩ := string_bytes (P := Tryd.prog) Tryd.underlying9 Tryd.underlying22 Tryd.underlying5 S (quoteL cps) Hss.out (by unfold maxLen; omega) w4
    have hb25 := bel_next hb24 hb5
    have Hb25 := Lib.hid hb25
    have hrd2 := read_in (some ⟨w4.heap.size, 0, none⟩) m c5 w5.heap.size 0 (quoteL cps) w5 (t2.below hb25 t2.lt) (e2.below hb25 e2.lt) (by rw [← hm]; exact hl5) (Nat.le_refl _) (by omega) (by omega) (Nat.zero_le _)
    rw [Hrv.out] at hrd2
    rw [hm] at hconv5
    have hle' : (m : Int) ≤ nx := by omega
    clear hl5 Hrv Hrq Hss hm hpr hrd hle hb4 hb3
    go_wp2_with fail
    refine hrd2.mono ?_
    rintro e w6 ⟨rfl, hb6⟩
    go_wp2
    go_ret
    exact ⟨rfl, bel_next hb02 (bel_next hb25 hb6)⟩
  · obtain ⟨hc0, hq⟩ := rd_bad hok (Nat.zero_le _)
    rw [Hl2.out] at hq
    rw [hc0, show ofL (textL []) = ⟨#[]⟩ from rfl] at hrd
    have hok' : ((rdL l 0).2.2 != 0) = true := by rw [bne_iff_ne]; exact hok
    clear hok hc0
    generalize (rdL l 0).2.1 = q at *
    generalize (rdL l 0).2.2 = z at *
    have hq' : (q : Int) ≤ n2 := by omega
    go_wp2_with fail
    refine hrd.mono ?_
    rintro e w3 ⟨rfl, hb3⟩
    go_wp2
    go_ret
    exact ⟨rfl, bel_next hb02 hb3⟩
end Go.Proofs.YtgnialemiefeeaaDoor
