/-
  Layer 3, plain: how far a numeral goes, behind other bytes and ahead of others.
-/
import Derived.Test.YtchmchbgbchipaaDoorNumH
import Derived.Test.YtchmchbgbchipaaDoorNumF
namespace Go.Proofs.YtchmchbgbchipaaDoor

def I64' (n : Int) : Prop := -9223372036854775808 ≤ n ∧ n ≤ 9223372036854775807
theorem tk_behind (set x y : List UInt8) (i : Nat) : tk set (x ++ y) (x.length + i) = tk set y i := by
  unfold tk
  rw [List.length_append, List.getD_eq_getElem?_getD, List.getElem?_append_right (by omega), Nat.add_sub_cancel_left, ← List.getD_eq_getElem?_getD]
  congr 1
  rw [decide_eq_decide]
  omega
theorem run_behind (x y : List UInt8) (i : Nat) : runP (x ++ y) (x.length + i) = x.length + runP y i := by
  refine run_same _ _ _ (by have := run_from y i; omega) (fun k h1 h2 => ?_) (by rw [tk_behind]; exact run_stops y i)
  obtain ⟨j, rfl⟩ : ∃ j, k = x.length + j := ⟨k - x.length, by omega⟩
  rw [tk_behind]
  exact run_all y i j (by omega) (by omega)
theorem step_behind (set x y : List UInt8) (i : Nat) : stepP set (x ++ y) (x.length + i) = x.length + stepP set y i := by
  unfold stepP
  rw [tk_behind]
  split <;> omega
theorem dig_behind (x y : List UInt8) (i : Nat) : digP (x ++ y) (x.length + i) = (x.length + (digP y i).1, (digP y i).2) := by
  unfold digP
  rw [run_behind]
  simp only [Prod.mk.injEq, true_and]
  rw [decide_eq_decide]
  omega
theorem whole_behind (x y : List UInt8) (i : Nat) : wholeP (x ++ y) (x.length + i) = (x.length + (wholeP y i).1, (wholeP y i).2) := by
  unfold wholeP
  rw [tk_behind, dig_behind]
  split
  · rfl
  · rfl
theorem frac_behind (x y : List UInt8) (i : Nat) : fracP (x ++ y) (x.length + i) = (x.length + (fracP y i).1, (fracP y i).2) := by
  unfold fracP
  rw [tk_behind]
  have := dig_behind x y (i + 1)
  rw [← Nat.add_assoc] at this
  rw [this]
  split <;> rfl
theorem expo_behind (x y : List UInt8) (i : Nat) : expoP (x ++ y) (x.length + i) = (x.length + (expoP y i).1, (expoP y i).2) := by
  unfold expoP
  rw [tk_behind]
  have := step_behind [43, 45] x y (i + 1)
  rw [← Nat.add_assoc] at this
  rw [this, dig_behind]
  split <;> rfl
theorem rest_behind (x y : List UInt8) (i : Nat) : restP (x ++ y) (x.length + i) = (x.length + (restP y i).1, (restP y i).2) := by
  unfold restP
  rw [frac_behind]
  simp only
  rw [expo_behind]
  split <;> rfl
/-- The scan behind the sign. -/
def bodyP (l : List UInt8) (p : Nat) : Nat × Bool × Bool := if (wholeP l p).2 = false then ((wholeP l p).1, false, false) else restP l (wholeP l p).1
theorem scan_body (l : List UInt8) (p : Nat) : scanP l p = bodyP l (signP l p) := by
  unfold scanP bodyP restP
  split <;> rfl
theorem body_behind (x y : List UInt8) (i : Nat) : bodyP (x ++ y) (x.length + i) = (x.length + (bodyP y i).1, (bodyP y i).2) := by
  unfold bodyP
  rw [whole_behind]
  simp only
  rw [rest_behind]
  split <;> rfl
theorem scan_behind (x y : List UInt8) (i : Nat) : scanP (x ++ y) (x.length + i) = (x.length + (scanP y i).1, (scanP y i).2) := by
  rw [scan_body, scan_body, show signP (x ++ y) (x.length + i) = x.length + signP y i from step_behind [45] x y i, body_behind]
theorem tk_head (set : List UInt8) (c : UInt8) (r : List UInt8) : tk set (c :: r) 0 = set.contains c := by
  unfold tk; simp
theorem tk_nil (set : List UInt8) (p : Nat) : tk set [] p = false := tk_end (by simp)
/-- The first byte of what stands behind is no digit, or there is none. -/
def noDigit (post : List UInt8) : Prop := tk dset post 0 = false
theorem run_digits : ∀ (ds post : List UInt8), allDg ds → runP (ds ++ post) 0 = ds.length + runP post 0 := by
  intro ds post h
  refine run_same _ _ _ (Nat.zero_le _) (fun k _ h2 => ?_) (by rw [tk_behind]; exact run_stops post 0)
  rcases Nat.lt_or_ge k ds.length with hk | hk
  · unfold tk
    rw [decide_eq_true (by rw [List.length_append]; omega), dset_is, Bool.true_and, List.getD_eq_getElem?_getD, List.getElem?_append_left hk, List.getElem?_eq_getElem hk]
    exact h _ (List.getElem_mem hk)
  · obtain ⟨j, rfl⟩ : ∃ j, k = ds.length + j := ⟨k - ds.length, by omega⟩
    rw [tk_behind]
    exact run_all post 0 j (Nat.zero_le _) (by omega)
theorem whole_dec (u : Nat) (post : List UInt8) (h : u = 0 ∨ noDigit post) : wholeP (Lib.decDigits u ++ post) 0 = ((Lib.decDigits u).length, true) := by
  obtain ⟨h1, h2, h3, h4⟩ := dec_digits u u (Nat.le_refl _)
  by_cases h0 : u = 0
  · subst h0
    rw [Lib.decDigits_one (i := 0) (by decide)]
    exact whole_zero (tk_head _ _ _)
  · have hpost := h.resolve_left h0
    have hh := h4 h0
    rcases hx : Lib.decDigits u with _ | ⟨a, r⟩
    · exact absurd hx h2
    · rw [hx] at hh h1
      have h48 : tk [48] (a :: r ++ post) 0 = false := by
        rw [List.cons_append, tk_head]
        have : a ≠ 48 := by simpa using hh
        simpa using this
      have hr := run_digits (a :: r) post h1
      rw [run_no hpost] at hr
      have hr' : runP (a :: r ++ post) 0 = (a :: r).length := by rw [hr]; rfl
      rw [whole_run h48 (by rw [hr']; simp), hr']
theorem dec_not45 (u : Nat) (post : List UInt8) : tk [45] (Lib.decDigits u ++ post) 0 = false := by
  obtain ⟨h1, h2, _, _⟩ := dec_digits u u (Nat.le_refl _)
  rcases hx : Lib.decDigits u with _ | ⟨a, r⟩
  · exact absurd hx h2
  · rw [hx] at h1
    have := (isDg_iff a).1 (h1 a (by simp))
    rw [List.cons_append, tk_head]
    have : a ≠ 45 := by intro e; subst e; have h45 : (45 : UInt8).toNat = 45 := rfl; omega
    simpa using this
theorem body_dec (u : Nat) (post : List UInt8) (h : u = 0 ∨ noDigit post) : bodyP (Lib.decDigits u ++ post) 0 = ((Lib.decDigits u).length + (restP post 0).1, (restP post 0).2) := by
  unfold bodyP
  rw [whole_dec u post h, if_neg (by simp)]
  exact rest_behind _ _ 0
/-- The scan of a number's own numeral, whatever stands behind that is no digit more. -/
theorem scan_itoa (n : Int) (post : List UInt8) (h : n = 0 ∨ noDigit post) : scanP (Lib.itoa n ++ post) 0 = ((Lib.itoa n).length + (restP post 0).1, (restP post 0).2) := by
  by_cases h0 : 0 ≤ n
  · obtain ⟨u, rfl⟩ : ∃ u : Nat, n = (u : Int) := ⟨n.toNat, by omega⟩
    have hu : u = 0 ∨ noDigit post := h.imp (fun h => by omega) id
    rw [Lib.itoa_nonneg, scan_body, show signP (Lib.decDigits u ++ post) 0 = 0 from step_no (dec_not45 u post)]
    exact body_dec u post hu
  · obtain ⟨u, rfl⟩ : ∃ u : Nat, n = -(u : Int) := ⟨n.natAbs, by omega⟩
    have hu : u = 0 ∨ noDigit post := .inr (h.resolve_left (by omega))
    rw [Lib.itoa_neg u (by omega), scan_body, List.cons_append, show signP (45 :: (Lib.decDigits u ++ post)) 0 = [45].length + 0 from step_yes (tk_head _ _ _)]
    have hb := body_behind [45] (Lib.decDigits u ++ post) 0
    have hb' : bodyP (45 :: (Lib.decDigits u ++ post)) ([45].length + 0) = ([45].length + (bodyP (Lib.decDigits u ++ post) 0).1, (bodyP (Lib.decDigits u ++ post) 0).2) := hb
    rw [hb', body_dec u post hu]
    simp only [List.length_cons, List.length_nil, Prod.mk.injEq, and_true]
    omega
theorem rest_end (post : List UInt8) (h1 : tk [46] post 0 = false) (h2 : tk [101, 69] post 0 = false) : restP post 0 = (0, false, true) := by
  rw [rest_frac (frac_none h1), expo_none h2]; rfl
/-- What Read says of a number's own numeral. -/
theorem parse_itoa (n : Int) (h : I64' n) : Lib.parseIntB 64 (Lib.itoa n) = .ok n := by
  obtain ⟨hlo, hhi⟩ := h
  by_cases h0 : 0 ≤ n
  · obtain ⟨u, rfl⟩ : ∃ u : Nat, n = (u : Int) := ⟨n.toNat, by omega⟩
    obtain ⟨h1, h2, h3, _⟩ := dec_digits u u (Nat.le_refl _)
    have := parse_num false (Lib.decDigits u) h1 h2
    rw [numR_plain, h3, if_pos (by omega)] at this
    rw [Lib.itoa_nonneg]
    exact this
  · obtain ⟨u, rfl⟩ : ∃ u : Nat, n = -(u : Int) := ⟨n.natAbs, by omega⟩
    obtain ⟨h1, h2, h3, _⟩ := dec_digits u u (Nat.le_refl _)
    have := parse_num true (Lib.decDigits u) h1 h2
    rw [numR_neg, h3, if_pos (by omega)] at this
    rw [Lib.itoa_neg u (by omega)]
    exact this
/-- Read finds a number's own numeral, whatever stands ahead, if nothing behind goes on with it. -/
theorem read_itoa (pre post : List UInt8) (n : Int) (h : I64' n) (hd : n = 0 ∨ noDigit post) (h1 : tk [46] post 0 = false) (h2 : tk [101, 69] post 0 = false) :
    readT (pre ++ (Lib.itoa n ++ post)) pre.length = (n, pre.length + (Lib.itoa n).length, 0) := by
  have hs : scanP (pre ++ (Lib.itoa n ++ post)) pre.length = (pre.length + (Lib.itoa n).length, false, true) := by
    have := scan_behind pre (Lib.itoa n ++ post) 0
    rw [Nat.add_zero] at this
    rw [this, scan_itoa n post hd, rest_end post h1 h2]
    simp
  have hn : numL (pre ++ (Lib.itoa n ++ post)) pre.length = Lib.itoa n := by
    unfold numL
    rw [hs, List.drop_left]
    simp
  rw [readT_ok (v := n) (by rw [hs]) (by rw [hs]) (by rw [hn]; exact parse_itoa n h), hs]
theorem rest_from (l : List UInt8) (p : Nat) : p ≤ (restP l p).1 := by
  have c := frac_from l p
  have d := expo_from l (fracP l p).1
  unfold restP
  split <;> (simp only; omega)
theorem readT_zero {l : List UInt8} {p : Nat} (h : (readT l p).2.2 = 0) : (scanP l p).2.2 = true ∧ (scanP l p).2.1 = false ∧ (readT l p).2.1 = (scanP l p).1 := by
  cases hok : (scanP l p).2.2
  · rw [readT_no hok] at h; simp at h
  · cases hpart : (scanP l p).2.1
    · rcases hpi : Lib.parseIntB 64 (numL l p) with v | _ | _
      · rw [readT_ok hok hpart hpi]; exact ⟨rfl, rfl, rfl⟩
      · rw [readT_bad hok (by rw [hpi]; simp)] at h; simp at h
      · rw [readT_bad hok (by rw [hpi]; simp)] at h; simp at h
    · rw [readT_part hok hpart] at h; simp at h
theorem rest_part (post : List UInt8) (h : tk [46] post 0 = true ∨ (tk [46] post 0 = false ∧ tk [101, 69] post 0 = true)) : (restP post 0).2.1 = true := by
  rcases h with h | ⟨h1, h2⟩
  · by_cases hr : runP post (0 + 1) = 0 + 1
    · rw [rest_point h hr]
    · rw [rest_frac (frac_yes h hr)]; rfl
  · rw [rest_frac (frac_none h1)]
    by_cases hr : runP post (stepP [43, 45] post (0 + 1)) = stepP [43, 45] post (0 + 1)
    · rw [expo_no h2 hr]; rfl
    · rw [expo_yes h2 hr]; rfl
theorem head_no {set : List UInt8} {post : List UInt8} (h : tk set post 0 = true) (hd : ∀ c ∈ set, isDg c = false) : noDigit post := by
  unfold noDigit
  unfold tk at h ⊢
  rw [Bool.and_eq_true] at h
  rw [dset_is]
  have := hd (post.getD 0 0) (by simpa using h.2)
  rw [this, Bool.and_false]
theorem body_more (u : Nat) (post : List UInt8) (h0 : u ≠ 0) (h : tk dset post 0 = true) : (Lib.decDigits u).length < (bodyP (Lib.decDigits u ++ post) 0).1 := by
  obtain ⟨h1, h2, h3, h4⟩ := dec_digits u u (Nat.le_refl _)
  have hh := h4 h0
  have hr := run_digits (Lib.decDigits u) post h1
  rw [run_yes h] at hr
  have hge := run_from post (0 + 1)
  rcases hx : Lib.decDigits u with _ | ⟨a, r⟩
  · exact absurd hx h2
  · rw [hx] at hh hr
    have h48 : tk [48] (a :: r ++ post) 0 = false := by
      rw [List.cons_append, tk_head]
      have : a ≠ 48 := by simpa using hh
      simpa using this
    have hw := whole_run h48 (by rw [hr]; simp)
    unfold bodyP
    rw [hw, if_neg (by simp)]
    have := rest_from (a :: r ++ post) (runP (a :: r ++ post) 0)
    simp only
    omega
/-- Otherwise it does not. -/
theorem read_more (pre post : List UInt8) (n : Int) (hset : tk dset post 0 = true ∨ tk [46] post 0 = true ∨ tk [101, 69] post 0 = true) (hn : n = 0 → tk dset post 0 = false) :
    (readT (pre ++ (Lib.itoa n ++ post)) pre.length).2.2 ≠ 0 ∨ pre.length + (Lib.itoa n).length < (readT (pre ++ (Lib.itoa n ++ post)) pre.length).2.1 := by
  by_cases hz : (readT (pre ++ (Lib.itoa n ++ post)) pre.length).2.2 = 0
  · right
    obtain ⟨hok, hpart, he⟩ := readT_zero hz
    rw [he]
    have hb := scan_behind pre (Lib.itoa n ++ post) 0
    rw [Nat.add_zero] at hb
    rw [hb] at hpart ⊢
    simp only at hpart ⊢
    cases hd : tk dset post 0
    · exfalso
      have hpt : (restP post 0).2.1 = true := rest_part post (by
        rcases hset with h | h | h
        · rw [hd] at h; cases h
        · exact .inl h
        · cases h46 : tk [46] post 0
          · exact .inr ⟨rfl, h⟩
          · exact .inl rfl)
      rw [scan_itoa n post (.inr hd)] at hpart
      simp only at hpart
      rw [hpt] at hpart
      cases hpart
    · have h0 : n ≠ 0 := fun e => by rw [hn e] at hd; cases hd
      by_cases hp : 0 ≤ n
      · obtain ⟨u, rfl⟩ : ∃ u : Nat, n = (u : Int) := ⟨n.toNat, by omega⟩
        have := body_more u post (by omega) hd
        rw [Lib.itoa_nonneg, scan_body, show signP (Lib.decDigits u ++ post) 0 = 0 from step_no (dec_not45 u post)]
        omega
      · obtain ⟨u, rfl⟩ : ∃ u : Nat, n = -(u : Int) := ⟨n.natAbs, by omega⟩
        have hm := body_more u post (by omega) hd
        have hb2 : bodyP (45 :: (Lib.decDigits u ++ post)) ([45].length + 0) = ([45].length + (bodyP (Lib.decDigits u ++ post) 0).1, (bodyP (Lib.decDigits u ++ post) 0).2) := body_behind [45] (Lib.decDigits u ++ post) 0
        rw [Lib.itoa_neg u (by omega), scan_body, List.cons_append, show signP (45 :: (Lib.decDigits u ++ post)) 0 = [45].length + 0 from step_yes (tk_head _ _ _), hb2]
        simp only [List.length_cons, List.length_nil]
        omega
  · exact .inl hz
end Go.Proofs.YtchmchbgbchipaaDoor
