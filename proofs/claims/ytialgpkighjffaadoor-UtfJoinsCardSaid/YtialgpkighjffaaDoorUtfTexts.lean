/-
  The walk of UtfTexts.
-/
import Derived.Test.YtialgpkighjffaaDoorUtfX
import Derived.Test.YtialgpkighjffaaDoorUtfW
import Derived.Test.YtialgpkighjffaaDoorSb
import Derived.Test.YtialgpkighjffaaDoorIntsC
import Derived.Deep.RegionHeld3
import Derived.Deep.DeepCutAuto
namespace Go.Proofs.YtialgpkighjffaaDoor
open Go.RowKit
set_option linter.unusedVariables false

theorem points_cases (s : ByteArray) (l : List UInt8) (hs : s.data.toList = l) (w : World) (hm : s.size ≤ 1000000) (htab : UTab w) (ok : Bool) (hok : decide ((ptsL l).2 = l.length) = ok) (pl : Int) (hpl : pl = if ok then 0 else ((ptsL l).2 : Int)) (er : Int) (her : er = if ok then 0 else 110) (P : List Int) (hP : P = if ok then nats (ptsL l).1 else []) :
    (Calls Tryd.prog 22 #[.string s] w fun e w' => ∃ A n c, e = .returned (.tuple #[.slice A n c, .int .i64 pl, .int .i64 er]) ∧ Ints w' w'.heap.size A n P ∧ n ≤ 1000000 ∧ Below w.heap.size w w') ∧
    (Calls Tryd.prog 21 #[.string s] w fun e w' => e = .returned (.tuple #[.int .i64 pl, .int .i64 er]) ∧ Below w.heap.size w w') := by
  have hp1 : (ptsL l).1.length ≤ 1000000 := by
    have hle := pts_le l
    have hl : s.size = l.length := str_size s l hs
    obtain ⟨-, -, h2, -⟩ := pts_is l.length l (Nat.le_refl _)
    have : ∀ m : List Nat, m.length ≤ (textL m).length := by
      intro m
      induction m with
      | nil => simp
      | cons c m ih => rw [textL_cons, List.length_append, List.length_cons]; have := encL_len_pos c; omega
    have := this (ptsL l).1
    omega
  cases ok
  · have h := of_decide_eq_false hok
    rw [if_neg (by simp)] at hpl her hP
    subst hpl her hP
    refine ⟨(points_no s l hs w hm htab h).mono fun e w' ⟨h1, h2⟩ => ⟨none, 0, 0, h1, Ints.zero _, by omega, h2⟩, (check_any s l hs w (by unfold maxLen; omega) htab).mono fun e w' ⟨h1, h2⟩ => ⟨?_, h2⟩⟩
    rw [h1, walkR, if_neg h]
  · have h := of_decide_eq_true hok
    rw [if_pos rfl] at hpl her hP
    subst hpl her hP
    refine ⟨(points_yes s l hs w hm htab h).mono fun e w' ⟨A, n, c, h1, h2, h3⟩ => ⟨A, n, c, h1, Ints.own h2, ?_, h3⟩, (check_any s l hs w (by unfold maxLen; omega) htab).mono fun e w' ⟨h1, h2⟩ => ⟨?_, h2⟩⟩
    · have := (Ints.own h2).len
      rw [nats_len] at this
      omega
    · rw [h1, walkR, if_pos h]

theorem refPoints_cases (A : Option Addr) (m c0 B : Nat) (l : List UInt8) (w : World) (hl : Bytes w B A m l) (hB : B ≤ w.heap.size) (hm : m ≤ 1000000) (hmc : m ≤ c0) (hc : c0 ≤ maxLen) (ok : Bool) (hok : decide ((ptsL l).2 = l.length) = ok) (pl : Int) (hpl : pl = if ok then 0 else ((ptsL l).2 : Int)) (P : List Int) (hP : P = if ok then nats (ptsL l).1 else []) :
    Calls Tryd.prog 20 #[.slice A m c0] w fun e w' => ∃ A n c, e = .returned (.tuple #[.slice A n c, .int .i64 pl, .bool ok]) ∧ Ints w' w'.heap.size A n P ∧ Below w.heap.size w w' := by
  refine (refPoints_any A m c0 B l w hl hB hm hmc hc).mono ?_
  rintro e w' ⟨A', n', c', h1, h2, h3⟩
  cases ok
  · have h := of_decide_eq_false hok
    rw [if_neg (by simp)] at hpl hP
    subst hpl hP
    rw [if_neg h] at h1 h3
    exact ⟨_, _, _, h3, Ints.own h1, h2⟩
  · have h := of_decide_eq_true hok
    rw [if_pos rfl] at hpl hP
    subst hpl hP
    rw [if_pos h] at h1 h3
    exact ⟨_, _, _, h3, Ints.own h1, h2⟩
theorem texts_cases (A : Option Addr) (m c0 B : Nat) (l : List Int) (w : World) (htab : UTab w) (hl : Ints w B A m l) (hB : B ≤ w.heap.size) (hm : m ≤ 100000) (is : Bool) (his : l.all isCp = is) (t : ByteArray) (ht : t = if is then ofL (textL (l.map Int.toNat)) else ⟨#[]⟩) (er : Int) (her : er = if is then 0 else 110) :
    (Calls Tryd.prog 24 #[.slice A m c0] w fun e w' => e = .returned (.tuple #[.string t, .int .i64 er]) ∧ Below w.heap.size w w') ∧
    (∀ W, Below w.heap.size w W → Calls Tryd.prog 25 #[.slice A m c0] W fun e w' => e = .returned (.tuple #[.string t, .bool is]) ∧ Below W.heap.size W w') := by
  refine ⟨(text_any A m c0 B l w htab hl hB hm).mono fun e w' ⟨h1, h2⟩ => ⟨?_, h2⟩, fun W hb => (refText_any A m c0 B l W (hl.below (hb.mono hB)) (Nat.le_trans hB hb.size) hm).mono fun e w' ⟨h1, h2⟩ => ⟨?_, h2⟩⟩
  · rw [h1, textR, his, ht, her]
    cases is <;> rfl
  · rw [h1, refTextR, his, ht]
    cases is <;> rfl

set_option maxRecDepth 20000 in
set_option maxHeartbeats 2000000 in
theorem utfTexts_walk (w : World) (s : ByteArray) (hs : s.size ≤ maxLen) (A : Option Addr) (n c : Nat) (l : List Int) (h : Ints w w.heap.size A n l) (hl : ∀ z ∈ l, (Lit.int .i64 z).wf = true) (hA : A = none → c = 0) (hn : n ≤ c) (hc : c ≤ maxLen) (htab : UTab w) :
    Calls Tryd.prog 5 #[.string s, .slice A n c] w fun e w' => e = .returned (.bool true) ∧ Below w.heap.size w w' := by
  clear hl
  unfold maxLen at hc hs
  obtain ⟨ms, Hms, hms1, hms2⟩ : ∃ ms : Nat, Hid ((if (300 : Int) < (s.size : Int) then (300 : Int) else (s.size : Int)) = (ms : Int)) ∧ ms ≤ s.size ∧ ms ≤ 300 := ⟨min s.size 300, Lib.hid (by split <;> omega), by omega, by omega⟩
  obtain ⟨mx, Hmx, hmx1, hmx2⟩ : ∃ mx : Nat, Hid ((if (100 : Int) < (n : Int) then (100 : Int) else (n : Int)) = (mx : Int)) ∧ mx ≤ n ∧ mx ≤ 100 := ⟨min n 100, Lib.hid (by split <;> omega), by omega, by omega⟩
  have hx := h.first hmx1
  generalize l.take mx = X at hx
  clear h
  go_enter Tryd.func5, Tryd.ntmps5
  go_wp2_with fail
  refine (wakes_any w htab).mono ?_
  rintro e w1 ⟨rfl, hb1⟩
  have t1 := htab.below hb1 htab.lt
  have hx1 := hx.below hb1
  have s1 := hb1.size
  go_wp2_with fail
  go_upto_region 3 with fail
  go_cut [0, 5] (fun s0 s5 wx => s0 = .string (s.extract 0 ms) ∧ ∃ A2 n2 c2, s5 = .slice A2 n2 c2 ∧ Ints wx wx.heap.size A2 n2 X ∧ Below w1.heap.size w1 wx)
  case first =>
    have Em3 : min (s.size : Int) 300 = (ms : Int) := by rw [← Hms.out]; split <;> omega
    have Em4 : min (n : Int) 100 = (mx : Int) := by rw [← Hmx.out]; split <;> omega
    have j1 : (0 : Int) ≤ (ms : Int) := by omega
    have j2 : (ms : Int) ≤ (s.size : Int) := by omega
    have j3 : (0 : Int) ≤ (mx : Int) := by omega
    have j4 : (mx : Int) ≤ (c : Int) := by omega
    go_region_held3 (fun w' => True) (trivial) ((go_at_call 19; refine (cloneI_any A mx c X w.heap.size _ (hx1.drewN _) hA s1 (by omega)).mono ?_; rintro e w2 ⟨A2, n2, c2, rfl, hown2, hb2⟩))
    all_goals
      go_wp2_with fail
      go_meet
      case rel => exact ⟨rfl, _, _, _, rfl, Ints.own hown2, below_undrewN hb2⟩
  case rest =>
    obtain ⟨rfl, A2, n2, c2, rfl, hX, hb12⟩ := hcut
    clear Hms Hmx
    have hS := front_str s s.data.toList ms rfl
    have hSz : (s.extract 0 ms).size ≤ 300 := by
      have := str_size (s.extract 0 ms) _ hS
      rw [this, List.length_take]
      omega
    generalize s.extract 0 ms = S at *
    generalize s.data.toList.take ms = L at *
    clear hs hms1 hms2
    have hLz := str_size S L hS
    have hb02 := bel_next hb1 hb12
    have t2 := t1.below hb12 t1.lt
    have hxw := hx1.below (hb12.mono s1)
    have hXl : mx = n2 := by rw [← hX.len, ← hx.len]
    have hbw : w.heap.size ≤ wc.heap.size := Nat.le_trans s1 hb12.size
    clear hx hx1 hb1 hb12 t1 s1 htab
    obtain ⟨c3, w3, hconv, hl3, hc3a, hc3b, hb3⟩ := string_bytes (P := Tryd.prog) Tryd.underlying9 Tryd.underlying22 Tryd.underlying5 S L hS (by unfold maxLen; omega) wc
    rw [← hLz] at hconv hl3 hc3a
    obtain ⟨ok, hok⟩ : ∃ ok, decide ((ptsL L).2 = L.length) = ok := ⟨_, rfl⟩
    obtain ⟨pl, hpl⟩ : ∃ pl : Int, pl = if ok then 0 else ((ptsL L).2 : Int) := ⟨_, rfl⟩
    obtain ⟨er, her⟩ : ∃ er : Int, er = if ok then 0 else 110 := ⟨_, rfl⟩
    obtain ⟨P, hP⟩ : ∃ P : List Int, P = if ok then nats (ptsL L).1 else [] := ⟨_, rfl⟩
    have href := refPoints_cases (some ⟨wc.heap.size, 0, none⟩) S.size c3 w3.heap.size L w3 hl3 (Nat.le_refl _) (by omega) hc3a hc3b ok hok pl hpl P hP
    have hpc := fun W hT => points_cases S L hS W (by omega) hT ok hok pl hpl er her P hP
    have Her := Lib.hid her
    clear hok hpl hP her hl3 hc3a hc3b hLz
    have t3 := t2.below hb3 t2.lt
    go_wp2_with fail
    refine href.mono ?_
    rintro e w4 ⟨A4, n4, c4, rfl, hP4, hb4⟩
    have t4 := t3.below hb4 t3.lt
    have hb24 := bel_next hb3 hb4
    clear hb3 hb4 t3 href t2 hconv
    go_wp2_with fail
    refine (hpc _ t4).2.mono ?_
    rintro e w5 ⟨rfl, hb5⟩
    have t5 := t4.below hb5 t4.lt
    go_wp2_with fail
    refine (hpc _ t5).1.mono ?_
    rintro e w6 ⟨A6, n6, c6, rfl, hP6, hn6, hb6⟩
    have t6 := t5.below hb6 t5.lt
    have hb46 := bel_next hb5 hb6
    have hb26 := bel_next hb24 hb46
    have hP4 := hP4.below hb46
    clear t4 t5 hb5 hb6 hpc hb24
    have heq := equalI_any A6 A4 n6 c6 n4 c4 P P w6.heap.size w4.heap.size w6 hP6 hP4 (by unfold maxLen; omega)
    rw [show sameI P P = true from decide_eq_true rfl] at heq
    clear hP4 hP6 hb46
    have hs26 := hb26.size
    have hs06 := Nat.le_trans hbw hs26
    have hX6 := hX.below hb26
    have hx6 := hxw.below (hb26.mono hbw)
    have hb06 := bel_next hb02 hb26
    obtain ⟨is, his⟩ : ∃ is, X.all isCp = is := ⟨_, rfl⟩
    obtain ⟨t, ht⟩ : ∃ t : ByteArray, t = if is then ofL (textL (X.map Int.toNat)) else ⟨#[]⟩ := ⟨_, rfl⟩
    obtain ⟨er', her'⟩ : ∃ er' : Int, er' = if is then 0 else 110 := ⟨_, rfl⟩
    have htx := fun k => texts_cases A2 n2 c2 wc.heap.size X (w6.drewN k) (t6.drewN k) (hX6.drewN k) hb26.size (by omega) is his t ht er' her'
    have hself : (t.toList == t.toList) = true := by simp
    have Her' := Lib.hid her'
    clear his ht her' hX hxw hb02 hbw hb26
    have hn2 : n2 ≤ 100 := by omega
    subst hXl
    have j1 : (0 : Int) ≤ (mx : Int) := by omega
    have j2 : (mx : Int) ≤ (c : Int) := by omega
    have hxe := fun W (hb : Below w6.heap.size w6 W) => equalI_any A2 A mx c2 mx c X X wc.heap.size w.heap.size W (hX6.below (hb.mono hs26)) (hx6.below (hb.mono hs06)) (by unfold maxLen; omega)
    simp only [show sameI X X = true from decide_eq_true rfl] at hxe
    clear hX6 hx6 hs26 hs06 hmx1 hmx2
    cases ok
    all_goals
      have e1 := Her.out
      simp only [Bool.false_eq_true, if_false, if_true] at e1
      subst e1
      go_wp2_with fail
      refine heq.mono ?_
      rintro e w7 ⟨rfl, k7, rfl⟩
      go_wp2_with fail
      refine (htx k7).1.mono ?_
      rintro e w8 ⟨rfl, hb8⟩
      go_wp2_with fail
      refine ((htx k7).2 _ hb8).mono ?_
      rintro e w9 ⟨rfl, hb9⟩
      have hb69 : Below w6.heap.size w6 w9 := below_undrewN (bel_next hb8 hb9)
      have hb09 := bel_next hb06 hb69
      clear hb8 hb9
      cases is
      all_goals
        have e2 := Her'.out
        simp only [Bool.false_eq_true, if_false, if_true] at e2
        subst e2
        go_wp2_with fail
        refine (hxe _ hb69).mono ?_
        rintro e w10 ⟨rfl, k10, rfl⟩
        go_wp2
        go_ret
        exact ⟨rfl, below_drewN hb09 _⟩
end Go.Proofs.YtialgpkighjffaaDoor
