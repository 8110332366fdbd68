/-
  The walk of UtfOrders.
-/
import Derived.Test.YtialgpkighjffaaDoorUtfX
import Derived.Test.YtialgpkighjffaaDoorUtfW
import Derived.Test.YtialgpkighjffaaDoorUtfO
import Derived.Test.YtialgpkighjffaaDoorIntsC
import Derived.Test.YtialgpkighjffaaDoorCmpI
namespace Go.Proofs.YtialgpkighjffaaDoor
open Go.RowKit
set_option linter.unusedVariables false

theorem cmpI_nats : ∀ x y : List Nat, cmpI (nats x) (nats y) = cmpN x y
  | [], [] => rfl
  | [], _ :: _ => rfl
  | _ :: _, [] => rfl
  | a :: x, b :: y => by
    have ih := cmpI_nats x y
    show (if (a : Int) < (b : Int) then -1 else if (b : Int) < (a : Int) then 1 else cmpI (nats x) (nats y)) = if a < b then -1 else if b < a then 1 else cmpN x y
    rw [ih]
    simp only [Int.ofNat_lt]
theorem nats_of : ∀ X : List Int, X.all isCp = true → nats (X.map Int.toNat) = X
  | [], _ => rfl
  | a :: x, h => by
    rw [List.all_cons, Bool.and_eq_true] at h
    have := (isCp_iff a).1 h.1
    show ((a.toNat : Nat) : Int) :: nats (x.map Int.toNat) = a :: x
    rw [nats_of x h.2, Int.toNat_of_nonneg (by omega)]
theorem allCp_of (X : List Int) (h : X.all isCp = true) : allCp (X.map Int.toNat) := by
  intro c hc
  obtain ⟨a, ha, rfl⟩ := List.mem_map.1 hc
  have h1 := List.all_eq_true.1 h a ha
  have := (isCp_iff a).1 h1
  rw [Int.toNat_of_nonneg (by omega)]
  exact h1
theorem textL_le : ∀ m : List Nat, m.length ≤ (textL m).length ∧ (textL m).length ≤ 4 * m.length
  | [] => by simp [textL]
  | c :: m => by
    have := textL_le m
    have := encL_len_pos c
    rw [textL_cons, List.length_append, List.length_cons]
    omega
/-- What Points tells of the text of code points. -/
theorem points_text (X : List Int) (h : X.all isCp = true) (hX : X.length ≤ 200000) (w : World) (htab : UTab w) :
    Calls Tryd.prog 22 #[.string (ofL (textL (X.map Int.toNat)))] w fun e w' => ∃ A n c, e = .returned (.tuple #[.slice A n c, .int .i64 0, .int .i64 0]) ∧ Ints w' w'.heap.size A n X ∧ Below w.heap.size w w' := by
  have hp : ptsL (textL (X.map Int.toNat)) = (X.map Int.toNat, (textL (X.map Int.toNat)).length) := by
    have := pts_text (X.map Int.toNat) [] (allCp_of X h)
    rw [List.append_nil] at this
    rw [this, pts_zero (l := []) rfl]
    simp
  have hle := (textL_le (X.map Int.toNat)).2
  rw [List.length_map] at hle
  refine (points_yes _ _ (ofL_toList _) w (by rw [ofL_size]; omega) htab (by rw [hp])).mono ?_
  rintro e w' ⟨A, n, c, h1, h2, h3⟩
  rw [hp] at h2
  simp only [nats_of X h] at h2
  exact ⟨A, n, c, h1, Ints.own h2, h3⟩

set_option maxRecDepth 20000 in
set_option maxHeartbeats 2000000 in
theorem utfOrders_walk (w : World) (A : Option Addr) (n c : Nat) (l : List Int) (h : Ints w w.heap.size A n l) (hl : ∀ z ∈ l, (Lit.int .i64 z).wf = true) (hA : A = none → c = 0) (hn : n ≤ c) (hc : c ≤ maxLen)
    (A' : Option Addr) (n' c' : Nat) (l' : List Int) (h' : Ints w w.heap.size A' n' l') (hl' : ∀ z ∈ l', (Lit.int .i64 z).wf = true) (hA' : A' = none → c' = 0) (hn' : n' ≤ c') (hc' : c' ≤ maxLen) (htab : UTab w) :
    Calls Tryd.prog 8 #[.slice A n c, .slice A' n' c'] w fun e w' => e = .returned (.bool true) ∧ Below w.heap.size w w' := by
  clear hl hl'
  unfold maxLen at hc hc'
  obtain ⟨mx, Hmx, hmx1, hmx2⟩ : ∃ mx : Nat, Hid (min (n : Int) 60 = (mx : Int)) ∧ mx ≤ n ∧ mx ≤ 60 := ⟨min n 60, Lib.hid (by omega), by omega, by omega⟩
  obtain ⟨my, Hmy, hmy1, hmy2⟩ : ∃ my : Nat, Hid (min (n' : Int) 60 = (my : Int)) ∧ my ≤ n' ∧ my ≤ 60 := ⟨min n' 60, Lib.hid (by omega), by omega, by omega⟩
  have hx := h.first hmx1
  have hy := h'.first hmy1
  generalize l.take mx = X at hx
  generalize l'.take my = Y at hy
  clear h h'
  have HX := Lib.hid hx.len
  have HY := Lib.hid hy.len
  have j1 : (0 : Int) ≤ (mx : Int) := by omega
  have j2 : (mx : Int) ≤ (c : Int) := by omega
  have j3 : (0 : Int) ≤ (my : Int) := by omega
  have j4 : (my : Int) ≤ (c' : Int) := by omega
  have m1 := Hmx.out
  have m2 := Hmy.out
  clear Hmx Hmy
  go_enter Tryd.func8, Tryd.ntmps8
  go_wp2_with fail
  refine (wakes_any w htab).mono ?_
  rintro e w1 ⟨rfl, hb1⟩
  have t1 := htab.below hb1 htab.lt
  have hx1 := hx.below hb1
  have hy1 := hy.below hb1
  have s1 := hb1.size
  have htx := text_any A mx c w.heap.size X w1 t1 hx1 s1 (by omega)
  unfold textR at htx
  by_cases hXc : X.all isCp = true
  · rw [if_pos hXc] at htx
    have HXc := Lib.hid hXc
    clear hXc
    go_wp2_with fail
    refine htx.mono ?_
    rintro e w2 ⟨rfl, hb2⟩
    have t2 := t1.below hb2 t1.lt
    have hy2 := hy1.below (hb2.mono s1)
    have hb02 := bel_next hb1 hb2
    clear htx t1 hx1 hy1 hb1 s1 hb2
    have hty := text_any A' my c' w.heap.size Y w2 t2 hy2 hb02.size (by omega)
    unfold textR at hty
    by_cases hYc : Y.all isCp = true
    · rw [if_pos hYc] at hty
      have HYc := Lib.hid hYc
      clear hYc
      have hpx := fun W hT => points_text X HXc.out (by rw [HX.out]; omega) W hT
      have hpy := fun W hT => points_text Y HYc.out (by rw [HY.out]; omega) W hT
      have hlt := less_text (X.map Int.toNat) (Y.map Int.toNat) (allCp_of X HXc.out) (allCp_of Y HYc.out)
      rw [← cmpI_nats, nats_of X HXc.out, nats_of Y HYc.out] at hlt
      have heqs : ((ofL (textL (X.map Int.toNat))).toList == (ofL (textL (Y.map Int.toNat))).toList) = sameI X Y := by
        rw [ofL_beq]
        unfold sameB sameI
        rw [Bool.eq_iff_iff, decide_eq_true_iff, decide_eq_true_iff]
        constructor
        · intro e
          have e1 := text_inj (allCp_of X HXc.out) (allCp_of Y HYc.out) e
          rw [← nats_of X HXc.out, ← nats_of Y HYc.out, e1]
        · intro e
          rw [e]
      have hlt : Op.bytesLess (ofL (textL (X.map Int.toNat))).toList (ofL (textL (Y.map Int.toNat))).toList = decide (cmpI X Y < 0) := by
        rw [ByteArray.toList_eq, ByteArray.toList_eq, ofL_toList, ofL_toList]
        exact hlt
      go_wp2_with fail
      refine hty.mono ?_
      rintro e w3 ⟨rfl, hb3⟩
      have t3 := t2.below hb3 t2.lt
      have hb03 := bel_next hb02 hb3
      generalize ofL (textL (X.map Int.toNat)) = S at *
      generalize ofL (textL (Y.map Int.toNat)) = T at *
      clear hty t2 hy2 hb02 hb3 hx hy
      go_wp2_with fail
      refine (hpx _ t3).mono ?_
      rintro e w4 ⟨A4, n4, c4, rfl, hX4, hb4⟩
      have t4 := t3.below hb4 t3.lt
      go_wp2_with fail
      refine (hpy _ t4).mono ?_
      rintro e w5 ⟨A5, n5, c5, rfl, hY5, hb5⟩
      have hX5 := hX4.below hb5
      have hb05 := bel_next hb03 (bel_next hb4 hb5)
      have hn4 : n4 ≤ 100000 := by rw [← hX4.len, HX.out]; omega
      clear t3 t4 hb4 hb5 hX4 hb03 HX HY HXc HYc
      have hcmp := compareI_any A4 A5 n4 c4 n5 c5 X Y _ _ w5 hX5 hY5 (by unfold maxLen; omega)
      have heq := equalI_any A4 A5 n4 c4 n5 c5 X Y _ _ w5 hX5 hY5 (by unfold maxLen; omega)
      clear hX5 hY5 hpx hpy
      go_wp2_with fail
      refine hcmp.mono ?_
      rintro e w6 ⟨rfl, hw6⟩
      have hw6' := hw6.symm
      clear hw6 hcmp
      subst hw6'
      go_wp2_with fail
      refine heq.mono ?_
      rintro e w7 ⟨rfl, k7, rfl⟩
      go_wp2
      go_ret
      exact ⟨rfl, below_drewN hb05 _⟩
    · rw [if_neg hYc] at hty
      clear hYc
      generalize ofL (textL (X.map Int.toNat)) = S at *
      go_wp2_with fail
      refine hty.mono ?_
      rintro e w3 ⟨rfl, hb3⟩
      go_wp2
      go_ret
      exact ⟨rfl, bel_next hb02 hb3⟩
  · rw [if_neg hXc] at htx
    clear hXc
    go_wp2_with fail
    refine htx.mono ?_
    rintro e w2 ⟨rfl, hb2⟩
    have t2 := t1.below hb2 t1.lt
    have hy2 := hy1.below (hb2.mono s1)
    have hb02 := bel_next hb1 hb2
    clear htx t1 hx1 hy1 hb1 s1 hb2
    have hty : Calls Tryd.prog 24 #[.slice A' my c'] w2 fun e w' => (∃ (T : ByteArray) (er : Int), e = .returned (.tuple #[.string T, .int .i64 er])) ∧ Below w2.heap.size w2 w' :=
      (text_any A' my c' w.heap.size Y w2 t2 hy2 hb02.size (by omega)).mono fun e w' ⟨h1, h2⟩ => ⟨by
        unfold textR at h1
        split at h1
        · exact ⟨_, _, h1⟩
        · exact ⟨_, _, h1⟩, h2⟩
    go_wp2_with fail
    refine hty.mono ?_
    rintro e w3 ⟨⟨T, er, rfl⟩, hb3⟩
    go_wp2
    go_ret
    exact ⟨rfl, bel_next hb02 hb3⟩
end Go.Proofs.YtialgpkighjffaaDoor
