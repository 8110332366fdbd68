/-
  The walk of NumeralBack.
-/
import Derived.Test.YtchmchbgbchipaaDoorNumI
import Derived.Test.YtchmchbgbchipaaDoorNumW
import Derived.Test.YtchmchbgbchipaaDoorCatB
import Derived.Test.YtchmchbgbchipaaDoorHasB
import Derived.Test.YtchmchbgbchipaaDoorSb
namespace Go.Proofs.YtchmchbgbchipaaDoor
open Go.RowKit
set_option linter.unusedVariables false

theorem digits_pow : ∀ (k u : Nat), u < 10 ^ (k + 1) → Lib.nDigits u ≤ k + 1
  | 0, u, h => by rw [Lib.nDigits_small (by simpa using h)]; exact Nat.le_refl _
  | k + 1, u, h => by
    by_cases hu : u < 10
    · rw [Lib.nDigits_small hu]; omega
    · rw [Lib.nDigits_big hu]
      have := digits_pow k (u / 10) (by rw [Nat.pow_succ] at h; omega)
      omega
theorem itoa_20 (n : Int) (h : I64 n) : (Lib.itoa n).length ≤ 20 := by
  obtain ⟨hlo, hhi⟩ := h
  by_cases h0 : 0 ≤ n
  · obtain ⟨u, rfl⟩ : ∃ u : Nat, n = (u : Int) := ⟨n.toNat, by omega⟩
    rw [Lib.itoa_nonneg, Lib.decDigits_length]
    have := digits_pow 18 u (by omega)
    omega
  · obtain ⟨u, rfl⟩ : ∃ u : Nat, n = -(u : Int) := ⟨n.natAbs, by omega⟩
    rw [Lib.itoa_neg u (by omega), List.length_cons, Lib.decDigits_length]
    have := digits_pow 18 u (by omega)
    omega
theorem read_alone (n : Int) (h : I64' n) : readT (Lib.itoa n) 0 = (n, (Lib.itoa n).length, 0) := by
  have := read_itoa [] [] n h (.inr (tk_nil _ _)) (tk_nil _ _) (tk_nil _ _)
  simpa using this
/-- The bytes that may go on with a numeral. -/
def mset : List UInt8 := [48, 49, 50, 51, 52, 53, 54, 55, 56, 57, 46, 101, 69]
theorem mset_is (x : UInt8) : mset.contains x = (isDg x || ([46] : List UInt8).contains x || ([101, 69] : List UInt8).contains x) := by
  rw [← dset_is]
  unfold mset dset
  simp only [List.contains_cons, List.contains_nil, Bool.or_false, Bool.or_assoc]
set_option maxRecDepth 20000 in
set_option maxHeartbeats 4000000 in
theorem numeralBack_walk (w : World) (A : Option Addr) (n c : Nat) (l : List UInt8) (h : Bytes w w.heap.size A n l) (hA : A = none → c = 0) (hn : n ≤ c) (hc : c ≤ maxLen) (x : Int) (hx : (Lit.int .i64 x).wf = true)
    (A' : Option Addr) (n' c' : Nat) (l' : List UInt8) (h' : Bytes w w.heap.size A' n' l') (hA' : A' = none → c' = 0) (hn' : n' ≤ c') (hc' : c' ≤ maxLen) (hv : NVars w) :
    Calls Tryd.prog 5 #[.slice A n c, .int .i64 x, .slice A' n' c'] w fun e w' => e = .returned (.bool true) ∧ Below w.heap.size w w' := by
  have h64 := i64_wf hx
  have h20 := itoa_20 x h64
  have kc := fun (w : World) (C : Array Value) (n c : Nat) => Lib.run_convert_bytes_const (P := Tryd.prog) w 22 5 C n c Tryd.underlying22 Tryd.underlying5
  clear hx
  go_enter Tryd.func5, Tryd.ntmps5
  go_wp2_with fail
  refine (wakes_any w hv).mono ?_
  rintro e w1 ⟨rfl, hb1⟩
  have v1 := hv.next hb1
  go_wp2_with fail
  refine (few_any A n c w.heap.size l w1 (h.below hb1) hA hb1.size hn hc).mono ?_
  rintro e w2 ⟨A3, n3, c3, rfl, hown3, hb2⟩
  have hb02 := bel_next hb1 hb2
  have v2 := v1.next hb2
  go_wp2_with fail
  refine (few_any A' n' c' w.heap.size l' w2 (h'.below hb02) hA' hb02.size hn' hc').mono ?_
  rintro e w3 ⟨A4, n4, c4, rfl, hown4, hb3⟩
  have v3 := v2.next hb3
  have hb03 := bel_next hb02 hb3
  have hl3 : Bytes w3 w3.heap.size A3 n3 (l.take 200) := ((Bytes.own hown3).below hb3).more hb3.size
  have hl4 : Bytes w3 w3.heap.size A4 n4 (l'.take 200) := Bytes.own hown4
  have hz3 : (l.take 200).length ≤ 200 := by rw [List.length_take]; omega
  have hz4 : (l'.take 200).length ≤ 200 := by rw [List.length_take]; omega
  generalize l.take 200 = pre at *
  generalize l'.take 200 = post at *
  clear hown3 hown4 hb1 hb2 hb3 v1 v2 hv hb02 h h'
  have hpr := print_any x h64 w3 v3
  go_wp2_with fail
  refine hpr.mono ?_
  rintro e w4 ⟨rfl, hb4⟩
  have v4 := v3.next hb4
  have hb04 := bel_next hb03 hb4
  have hl3 := (hl3.below hb4).more hb4.size
  have hl4 := (hl4.below hb4).more hb4.size
  have hsz : (ofL (Lib.itoa x)).size ≤ 20 := by rw [ofL_size]; exact h20
  obtain ⟨c5, w5, hconv5, hl5, hc5a, hc5b, hb5⟩ := string_bytes (P := Tryd.prog) Tryd.underlying9 Tryd.underlying22 Tryd.underlying5 (ofL (Lib.itoa x)) (Lib.itoa x) (ofL_toList _) (by unfold maxLen; omega) w4
  have hr0 := read_in (some ⟨w4.heap.size, 0, none⟩) (Lib.itoa x).length c5 w5.heap.size 0 (Lib.itoa x) w5 (v4.next hb5) hl5 (Nat.le_refl _) (by omega) hc5a (Nat.zero_le _)
  unfold Reads at hr0
  rw [read_alone x h64] at hr0
  have HSZ := Lib.hid (show ((ofL (Lib.itoa x)).size : Int) = ((Lib.itoa x).length : Int) by rw [ofL_size])
  have hsl : ((Lib.itoa x).length : Int) = ((ofL (Lib.itoa x)).size : Int) := HSZ.out.symm
  rw [hsl] at hr0
  clear hsl hb03 v3 hpr
  go_wp2_with fail
  refine hr0.mono ?_
  rintro e w6 ⟨rfl, hb6⟩
  have hb46 := bel_next hb5 hb6
  have v6 := v4.next hb46
  have hb06 := bel_next hb04 hb46
  have hl3 := (hl3.below hb46).more hb46.size
  have hl4 := (hl4.below hb46).more hb46.size
  clear hb5 hb6 hl5 hconv5 hr0 v4 hb04 hb4 hb46
  obtain ⟨c7, w7, hconv7, hl7, hc7a, hc7b, hb7⟩ := string_bytes (P := Tryd.prog) Tryd.underlying9 Tryd.underlying22 Tryd.underlying5 (ofL (Lib.itoa x)) (Lib.itoa x) (ofL_toList _) (by unfold maxLen; omega) w6
  have v7 := v6.next hb7
  have hb07 := bel_next hb06 hb7
  have hl3 := (hl3.below hb7).more hb7.size
  have hl4 := (hl4.below hb7).more hb7.size
  have hlie := lieB_new w7 [⟨A3, n3, c3, pre⟩, ⟨some ⟨w6.heap.size, 0, none⟩, (Lib.itoa x).length, c7, Lib.itoa x⟩, ⟨A4, n4, c4, post⟩] #[.slice A3 n3 c3, .slice (some ⟨w6.heap.size, 0, none⟩) (Lib.itoa x).length c7, .slice A4 n4 c4] 22 rfl (by
    intro y hy
    simp only [List.mem_cons, List.not_mem_nil, or_false] at hy
    rcases hy with rfl | rfl | rfl
    · exact hl3
    · exact hl7
    · exact hl4)
  have hjoin : joinB [⟨A3, n3, c3, pre⟩, ⟨some ⟨w6.heap.size, 0, none⟩, (Lib.itoa x).length, c7, Lib.itoa x⟩, ⟨A4, n4, c4, post⟩] = pre ++ (Lib.itoa x ++ post) := by simp [joinB]
  have hjz : (pre ++ (Lib.itoa x ++ post)).length ≤ 420 := by rw [List.length_append, List.length_append]; omega
  have hcat := concatB_any w7.heap.size _ 3 _ rfl (by omega) hlie (fun k => Nat.le_trans (joinB_le _ k) (by rw [hjoin]; omega)) (by simp)
  rw [hjoin] at hcat
  have hlie := trivial
  have hjoin := trivial
  clear hlie hjoin hl7 hc7a hc7b hb06
  have HN3 := Lib.hid hl3.len
  have HN4 := Lib.hid hl4.len
  go_wp2_with fail
  refine hcat.mono ?_
  rintro e w8 ⟨A8, n8, c8, rfl, hown8, hb8⟩
  have hb78 : Below w7.heap.size w7 w8 := ((Below.refl _ _).alloc (Nat.le_refl _) _).trans (hb8.mono (by simp))
  have hb08 := bel_next hb07 hb78
  have v8 := v7.next hb78
  have hl8 : Bytes w8 w8.heap.size A8 n8 (pre ++ (Lib.itoa x ++ post)) := Bytes.own hown8
  have HL8 := Lib.hid hl8.len
  have hn8 : n8 ≤ 420 := by rw [← HL8.out]; exact hjz
  obtain ⟨hnc8, hcm8⟩ : n8 ≤ c8 ∧ c8 ≤ maxLen := by obtain ⟨_, _, h1, h2, h3⟩ := own_form hown8; cases h1; exact ⟨h2, h3⟩
  have hp8 : n3 ≤ n8 := by rw [← HN3.out, ← HL8.out, List.length_append]; omega
  have hr8 := read_in A8 n8 c8 w8.heap.size n3 (pre ++ (Lib.itoa x ++ post)) w8 v8 hl8 (Nat.le_refl _) (by omega) hnc8 hp8
  unfold Reads at hr8
  have hl4 := (hl4.below hb78)
  have s78 := hb78.size
  clear hcat hown8 hb8 hl3 hl8 hconv7 hb07 v7 hnc8 hcm8 hp8 hb7
  rw [← HN3.out] at hr8
  have i64x : I64' x := h64
  rcases post with _ | ⟨y, r⟩
  · have hn4 : n4 = 0 := by rw [← HN4.out]; rfl
    subst hn4
    rw [read_itoa pre [] x i64x (.inr (tk_nil _ _)) (tk_nil _ _) (tk_nil _ _)] at hr8
    simp only at hr8
    rw [show ((pre.length + (Lib.itoa x).length : Nat) : Int) = (pre.length : Int) + ((Lib.itoa x).length : Int) by omega, ← HSZ.out, HN3.out] at hr8
    have hn3 : n3 ≤ 200 := by rw [← HN3.out]; exact hz3
    clear HSZ
    generalize ofL (Lib.itoa x) = S at *
    go_wp2_with fail
    refine hr8.mono ?_
    rintro e w9 ⟨rfl, hb9⟩
    go_wp2
    go_ret
    exact ⟨rfl, bel_next hb08 hb9⟩
  · have hn4 : 0 < n4 := by rw [← HN4.out]; simp
    have hn4b : ((n4 : Int) == 0) = false := by rw [beq_eq_false_iff_ne]; omega
    have hn4c : (0 : Int) < (n4 : Int) := by omega
    have hn4d : ¬ (n4 : Int) ≤ 0 := by omega
    have hn3 : n3 ≤ 200 := by rw [← HN3.out]; exact hz3
    obtain ⟨b4, o4, rfl, hb4l, hcell⟩ := hl4.cell hn4
    rw [Nat.add_zero] at hcell
    have hy : at8 (y :: r) 0 = (y.toNat : Int) := rfl
    rw [hy] at hcell
    have hcell9 : ∀ W, Below w8.heap.size w8 W → ∀ o, (W.alloc o).cell? ⟨b4, o4, none⟩ = some (.int .u8 (y.toNat : Int)) := fun W hW o => by
      have h1 : W.cell? ⟨b4, o4, none⟩ = some (.int .u8 (y.toNat : Int)) := (hW.cell (p := ⟨b4, o4, none⟩) (show b4 < w8.heap.size by omega)).trans hcell
      exact cell_keep h1 o
    have hmem := fun W => containsB_any (some ⟨W.heap.size, 0, none⟩) 13 13 (W.heap.size + 1) mset y _ (bytes_new W mset #[.int .u8 48, .int .u8 49, .int .u8 50, .int .u8 51, .int .u8 52, .int .u8 53, .int .u8 54, .int .u8 55, .int .u8 56, .int .u8 57, .int .u8 46, .int .u8 101, .int .u8 69] 5 (13, 14) rfl) (by unfold maxLen; omega)
    have hyl : (y.toNat : Int) ≤ 255 := by have := y.toNat_lt; omega
    have ht46 : tk [46] (y :: r) 0 = ([46] : List UInt8).contains y := tk_head _ _ _
    have ht101 : tk [101, 69] (y :: r) 0 = ([101, 69] : List UInt8).contains y := tk_head _ _ _
    have htd : tk dset (y :: r) 0 = isDg y := by rw [tk_head, dset_is]
    have hm := mset_is y
    by_cases hgood : (x = 0 ∨ isDg y = false) ∧ ([46] : List UInt8).contains y = false ∧ ([101, 69] : List UInt8).contains y = false
    · rw [read_itoa pre (y :: r) x i64x (hgood.1.imp id fun h => by unfold noDigit; rw [htd]; exact h) (by rw [ht46]; exact hgood.2.1) (by rw [ht101]; exact hgood.2.2)] at hr8
      simp only at hr8
      rw [show ((pre.length + (Lib.itoa x).length : Nat) : Int) = (pre.length : Int) + ((Lib.itoa x).length : Int) by omega, ← HSZ.out, HN3.out] at hr8
      rw [hgood.2.1, hgood.2.2, Bool.or_false, Bool.or_false] at hm
      have hdg := isDg_iff y
      have hor := hgood.1
      clear HSZ hgood ht46 ht101 htd
      generalize ofL (Lib.itoa x) = S at *
      cases hd : isDg y
      · rw [hd] at hm
        have hmem := fun W => hmem W false hm
        clear hm hd hdg hor
        go_wp2_with fail
        refine hr8.mono ?_
        rintro e w9 ⟨rfl, hb9⟩
        have hcl := hcell9 w9 hb9
        clear hcell9
        go_wp2_with fail
        refine (hmem w9).mono ?_
        rintro e w10 ⟨rfl, hw10⟩
        have hw10' := hw10.symm
        clear hw10 hmem
        subst hw10'
        go_wp2
        go_ret
        exact ⟨rfl, bel_alloc (bel_next hb08 hb9) _⟩
      · rw [hd] at hm
        have hmem := fun W => hmem W true hm
        have hx0 : x = 0 := hor.resolve_right (by rw [hd]; simp)
        have hy1 := hdg.1 hd
        have k1 : (48 : Int) ≤ (y.toNat : Int) := by omega
        have k2 : (y.toNat : Int) ≤ 57 := by omega
        clear hm hd hdg hor
        subst hx0
        go_wp2_with fail
        refine hr8.mono ?_
        rintro e w9 ⟨rfl, hb9⟩
        have hcl := hcell9 w9 hb9
        clear hcell9
        go_wp2_with fail
        refine (hmem w9).mono ?_
        rintro e w10 ⟨rfl, hw10⟩
        have hw10' := hw10.symm
        clear hw10 hmem
        subst hw10'
        go_wp2
        go_ret
        exact ⟨rfl, bel_alloc (bel_next hb08 hb9) _⟩
    · have hspecial : isDg y = true → ([46] : List UInt8).contains y = false ∧ ([101, 69] : List UInt8).contains y = false := by
        intro hd
        have hy1 := (isDg_iff y).1 hd
        constructor
        · rw [Bool.eq_false_iff]
          intro e
          have : y = 46 := by simpa using e
          subst this
          exact absurd hy1.1 (by decide)
        · rw [Bool.eq_false_iff]
          intro e
          have : y = 101 ∨ y = 69 := by simpa using e
          rcases this with rfl | rfl
          · exact absurd hy1.2 (by decide)
          · exact absurd hy1.2 (by decide)
      have hx0 : x = 0 → isDg y = false := by
        intro e
        cases hd : isDg y
        · rfl
        · exact absurd ⟨.inl e, hspecial hd⟩ hgood
      have hset : isDg y = true ∨ ([46] : List UInt8).contains y = true ∨ ([101, 69] : List UInt8).contains y = true := by
        cases h1 : isDg y
        · cases h2 : ([46] : List UInt8).contains y
          · cases h3 : ([101, 69] : List UInt8).contains y
            · exact absurd ⟨.inr h1, h2, h3⟩ hgood
            · exact .inr (.inr rfl)
          · exact .inr (.inl rfl)
        · exact .inl rfl
      have hmore := read_more pre (y :: r) x (by rw [htd, ht46, ht101]; exact hset) (fun e => by rw [htd]; exact hx0 e)
      have hmt : mset.contains y = true := by
        rw [hm]
        rcases hset with h | h | h <;> rw [h] <;> simp
      have hmem := fun W => hmem W true hmt
      have hcase : (x == 0) = false ∨ (x = 0 ∧ (¬ (48 : Int) ≤ (y.toNat : Int) ∨ ((48 : Int) ≤ (y.toNat : Int) ∧ ¬ (y.toNat : Int) ≤ 57))) := by
        by_cases e : x = 0
        · right
          have hd := hx0 e
          have hdg := isDg_iff y
          rw [hd] at hdg
          simp at hdg
          exact ⟨e, by omega⟩
        · left; rw [beq_eq_false_iff_ne]; exact e
      have hlen : ((Lib.itoa x).length : Int) = ((ofL (Lib.itoa x)).size : Int) := HSZ.out.symm
      rw [HN3.out] at hmore hr8
      generalize readT (pre ++ (Lib.itoa x ++ y :: r)) n3 = R at *
      obtain ⟨v, q, z⟩ := R
      simp only at hmore hr8
      have hzz : (z != 0) = true ∨ ((z != 0) = false ∧ (n3 : Int) + ((ofL (Lib.itoa x)).size : Int) < (q : Int)) := by
        by_cases hz : z = 0
        · right
          have h2 := hmore.resolve_left (fun h => h hz)
          exact ⟨by rw [hz]; rfl, by omega⟩
        · left; rw [bne_iff_ne]; exact hz
      clear hlen hspecial hx0 hset hmore hmt hm hgood ht46 ht101 htd HSZ
      generalize ofL (Lib.itoa x) = S at *
      rcases hcase with hxx | ⟨rfl, hyy | ⟨hy1, hy2⟩⟩
      all_goals
        rcases hzz with hzz | ⟨hzz, hzq⟩
        all_goals
          go_wp2_with fail
          refine hr8.mono ?_
          rintro e w9 ⟨rfl, hb9⟩
          have hcl := hcell9 w9 hb9
          clear hcell9
          go_wp2_with fail
          refine (hmem w9).mono ?_
          rintro e w10 ⟨rfl, hw10⟩
          have hw10' := hw10.symm
          clear hw10 hmem
          subst hw10'
          go_wp2
          go_ret
          exact ⟨rfl, bel_alloc (bel_next hb08 hb9) _⟩
end Go.Proofs.YtchmchbgbchipaaDoor
