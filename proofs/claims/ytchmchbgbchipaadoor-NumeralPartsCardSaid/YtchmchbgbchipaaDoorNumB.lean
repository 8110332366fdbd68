/-
  Layer 3: digits and the parts of a numeral.
-/
import Derived.Test.YtchmchbgbchipaaDoorNumA
import Derived.Deep.LoopGhost
import Derived.WalkMore
namespace Go.Proofs.YtchmchbgbchipaaDoor
open Go.RowKit

/-- What a part of the reading does: it goes on to a place, or panics with it. -/
def Went (w : World) (g q : Nat) (A : Option Addr) (n c : Nat) (part ok : Bool) (e : Ending) (w' : World) : Prop :=
  ((ok = true ∧ e = .returned (.tuple #[])) ∨ (ok = false ∧ e = .panicked [{ v := .iface 61 (.agg #[.int .i64 (q : Int)]), recovered := false }])) ∧ Rd w' g q A n c part ∧ Only g w w'
theorem take_yes {w : World} {g p : Nat} {A : Option Addr} {n c : Nat} {part : Bool} {e : Ending} {w' : World} {set l : List UInt8} (h : Taken w g p A n c part (tk set l p) e w') : Rd w' g (stepP set l p) A n c part ∧ Only g w w' := by
  obtain ⟨_, h2, h3⟩ := h
  refine ⟨?_, h3⟩
  unfold stepP
  exact h2

set_option maxRecDepth 20000 in
set_option maxHeartbeats 2000000 in
theorem digits_any (g p : Nat) (A : Option Addr) (n c B : Nat) (part : Bool) (l : List UInt8) (w : World) (h : Rd w g p A n c part) (hl : Bytes w B A n l) (hB : B ≤ g) (hp : p ≤ n) (hn : n ≤ maxLen) :
    Calls Tryd.prog 37 #[.pointer (some ⟨g, 0, none⟩)] w (Went w g (digP l p).1 A n c part (digP l p).2) := by
  have Hl := Lib.hid hl.len
  have hc0 := h.c0
  go_enter Tryd.func37, Tryd.ntmps37
  go_wp2_with fail
  go_step3
  go_wp2_with fail
  go_step3
  go_wp2_with fail
  go_loopg [8] (n - p) (fun k s8 wr => ∃ q, k = n - q ∧ q ≤ n ∧ Hid (runP l p = runP l q) ∧ Rd wr g q A n c part ∧ Only g w wr)
  case atStart => exact ⟨p, rfl, hp, Lib.hid rfl, h, Only.refl _ _⟩
  case round =>
    obtain ⟨q, rfl, hq, HQ, hr, hbr⟩ := hrel
    have hlr := bytes_only hl hbr hB h.lt
    have ht := takes_any g q A n c B part l dset ⟨#[48, 49, 50, 51, 52, 53, 54, 55, 56, 57]⟩ rfl (by decide) wr hr hlr hq hn
    cases htk : tk dset l q
    · rw [htk] at ht
      have HE := Lib.hid (HQ.out.trans (run_no htk))
      clear htk HQ hc0
      go_wp2_with fail
      refine ht.mono ?_
      rintro e w2 ⟨rfl, hr2, hb2⟩
      have hc2 := hr2.c0
      simp only [Bool.false_eq_true, if_false] at hc2
      by_cases hqp : q = p
      · subst hqp
        have HD := Lib.hid (show digP l q = (q, false) by unfold digP; rw [HE.out]; simp)
        go_wp2
        exact ⟨rfl, .inr ⟨by rw [HD.out], by rw [HD.out]⟩, by rw [HD.out]; exact hr2, hbr.trans hb2⟩
      · have hne : ((q : Int) == (p : Int)) = false := by rw [beq_eq_false_iff_ne]; omega
        have HN := Lib.hid hqp
        clear hqp
        have HD := Lib.hid (show digP l p = (q, true) by unfold digP; rw [HE.out]; simp [HN.out])
        go_wp2
        rw [Exit.noGoto_normal]
        go_end0
        exact ⟨.inl ⟨by rw [HD.out], rfl⟩, by rw [HD.out]; exact hr2, hbr.trans hb2⟩
    · rw [htk] at ht
      have hlt := tk_lt htk
      rw [Hl.out] at hlt
      have HE := Lib.hid (HQ.out.trans (run_yes htk))
      clear htk HQ hc0
      go_wp2_with fail
      refine ht.mono ?_
      rintro e w2 ⟨rfl, hr2, hb2⟩
      go_wp2_with fail
      go_roundg (n - (q + 1))
      case rel => exact ⟨q + 1, rfl, by omega, HE, hr2, hbr.trans hb2⟩
      case measure => omega

theorem sign_any (g p : Nat) (A : Option Addr) (n c B : Nat) (part : Bool) (l : List UInt8) (w : World) (h : Rd w g p A n c part) (hl : Bytes w B A n l) (hp : p ≤ n) (hn : n ≤ maxLen) :
    Calls Tryd.prog 29 #[.pointer (some ⟨g, 0, none⟩)] w (Went w g (signP l p) A n c part true) := by
  have ht := takes_any g p A n c B part l [45] ⟨#[45]⟩ rfl (by decide) w h hl hp hn
  go_enter Tryd.func29, Tryd.ntmps29
  go_wp2_with fail
  refine ht.mono ?_
  rintro e w2 hw2
  have hk := take_yes hw2
  obtain ⟨rfl, -, -⟩ := hw2
  go_wp2
  go_end0
  exact ⟨.inl ⟨rfl, rfl⟩, hk.1, hk.2⟩
theorem whole_any (g p : Nat) (A : Option Addr) (n c B : Nat) (part : Bool) (l : List UInt8) (w : World) (h : Rd w g p A n c part) (hl : Bytes w B A n l) (hB : B ≤ g) (hp : p ≤ n) (hn : n ≤ maxLen) :
    Calls Tryd.prog 30 #[.pointer (some ⟨g, 0, none⟩)] w (Went w g (wholeP l p).1 A n c part (wholeP l p).2) := by
  have ht := takes_any g p A n c B part l [48] ⟨#[48]⟩ rfl (by decide) w h hl hp hn
  cases htk : tk [48] l p
  · have HW := Lib.hid (show wholeP l p = digP l p by unfold wholeP; rw [htk]; rfl)
    rw [htk] at ht
    clear htk
    go_enter Tryd.func30, Tryd.ntmps30
    go_wp2_with fail
    refine ht.mono ?_
    rintro e w2 ⟨rfl, hr2, hb2⟩
    have hd := digits_any g p A n c B part l w2 hr2 (bytes_only hl hb2 hB h.lt) hB hp hn
    rw [← HW.out] at hd
    generalize wholeP l p = r at *
    clear HW
    go_wp2_with fail
    refine hd.mono ?_
    rintro e w3 ⟨hor, hr3, hb3⟩
    rcases hor with ⟨ho, rfl⟩ | ⟨ho, rfl⟩
    · go_wp2
      go_end0
      exact ⟨.inl ⟨ho, rfl⟩, hr3, hb2.trans hb3⟩
    · go_wp2
      exact ⟨rfl, .inr ⟨by first | exact ho | rfl, rfl⟩, hr3, hb2.trans hb3⟩
  · have HW := Lib.hid (show wholeP l p = (p + 1, true) by unfold wholeP; rw [htk]; rfl)
    rw [htk] at ht
    clear htk
    go_enter Tryd.func30, Tryd.ntmps30
    go_wp2_with fail
    refine ht.mono ?_
    rintro e w2 ⟨rfl, hr2, hb2⟩
    go_wp2
    go_end0
    exact ⟨.inl ⟨by rw [HW.out], rfl⟩, by rw [HW.out]; exact hr2, hb2⟩
theorem fraction_any (g p : Nat) (A : Option Addr) (n c B : Nat) (l : List UInt8) (w : World) (h : Rd w g p A n c false) (hl : Bytes w B A n l) (hB : B ≤ g) (hp : p ≤ n) (hn : n ≤ maxLen) :
    Calls Tryd.prog 31 #[.pointer (some ⟨g, 0, none⟩)] w (Went w g (fracP l p).1 A n c (fracP l p).2.1 (fracP l p).2.2) := by
  have ht := takes_any g p A n c B false l [46] ⟨#[46]⟩ rfl (by decide) w h hl hp hn
  cases htk : tk [46] l p
  · have HW := Lib.hid (show fracP l p = (p, false, true) by unfold fracP; rw [htk]; rfl)
    rw [htk] at ht
    clear htk
    go_enter Tryd.func31, Tryd.ntmps31
    go_wp2_with fail
    refine ht.mono ?_
    rintro e w2 ⟨rfl, hr2, hb2⟩
    go_wp2
    go_end0
    exact ⟨.inl ⟨by rw [HW.out], rfl⟩, by rw [HW.out]; exact hr2, hb2⟩
  · have hlt := tk_lt htk
    have HW := Lib.hid (show fracP l p = ((digP l (p + 1)).1, true, (digP l (p + 1)).2) by unfold fracP; rw [htk]; rfl)
    rw [htk] at ht
    rw [hl.len] at hlt
    clear htk
    go_enter Tryd.func31, Tryd.ntmps31
    go_wp2_with fail
    refine ht.mono ?_
    rintro e w2 ⟨rfl, hr2, hb2⟩
    have hc2 := hr2.c2
    have hf2 := hr2.f2
    have hr2' := hr2.set2 true
    have hb2' := hb2.setCell 2 (.bool true)
    have hd := digits_any g (p + 1) A n c B true l _ hr2' (bytes_only hl hb2' hB h.lt) hB (by omega) hn
    clear hc2
    have hc2 : w2.cell? ⟨g, 2, none⟩ = some (.bool false) := hr2.c2
    go_wp2_with fail
    refine hd.mono ?_
    rintro e w3 ⟨hor, hr3, hb3⟩
    rcases hor with ⟨ho, rfl⟩ | ⟨ho, rfl⟩
    · go_wp2
      go_end0
      exact ⟨.inl ⟨by rw [HW.out]; exact ho, rfl⟩, by rw [HW.out]; exact hr3, hb2'.trans hb3⟩
    · go_wp2
      exact ⟨rfl, .inr ⟨by rw [HW.out]; exact ho, by rw [HW.out]⟩, by rw [HW.out]; exact hr3, hb2'.trans hb3⟩
theorem exponent_any (g p : Nat) (A : Option Addr) (n c B : Nat) (part : Bool) (l : List UInt8) (w : World) (h : Rd w g p A n c part) (hl : Bytes w B A n l) (hB : B ≤ g) (hp : p ≤ n) (hn : n ≤ maxLen) :
    Calls Tryd.prog 32 #[.pointer (some ⟨g, 0, none⟩)] w (Went w g (expoP l p).1 A n c (part || (expoP l p).2.1) (expoP l p).2.2) := by
  have ht := takes_any g p A n c B part l [101, 69] ⟨#[101, 69]⟩ rfl (by decide) w h hl hp hn
  cases htk : tk [101, 69] l p
  · have HW := Lib.hid (show expoP l p = (p, false, true) by unfold expoP; rw [htk]; rfl)
    rw [htk] at ht
    clear htk
    go_enter Tryd.func32, Tryd.ntmps32
    go_wp2_with fail
    refine ht.mono ?_
    rintro e w2 ⟨rfl, hr2, hb2⟩
    go_wp2
    go_end0
    exact ⟨.inl ⟨by rw [HW.out], rfl⟩, by rw [HW.out, Bool.or_false]; exact hr2, hb2⟩
  · have hlt := tk_lt htk
    have HW := Lib.hid (show expoP l p = ((digP l (stepP [43, 45] l (p + 1))).1, true, (digP l (stepP [43, 45] l (p + 1))).2) by unfold expoP; rw [htk]; rfl)
    rw [htk] at ht
    rw [hl.len] at hlt
    clear htk
    go_enter Tryd.func32, Tryd.ntmps32
    go_wp2_with fail
    refine ht.mono ?_
    rintro e w2 ⟨rfl, hr2, hb2⟩
    have hf2 := hr2.f2
    have hr2' := hr2.set2 true
    have hb2' := hb2.setCell 2 (.bool true)
    have hc2 : w2.cell? ⟨g, 2, none⟩ = some (.bool part) := hr2.c2
    have ht2 := takes_any g (p + 1) A n c B true l [43, 45] ⟨#[43, 45]⟩ rfl (by decide) _ hr2' (bytes_only hl hb2' hB h.lt) (by omega) hn
    have hsl := step_le [43, 45] l (p + 1) (by rw [hl.len]; omega)
    rw [hl.len] at hsl
    go_wp2_with fail
    refine ht2.mono ?_
    rintro e w3 hw3
    have hk := take_yes hw3
    obtain ⟨rfl, -, -⟩ := hw3
    have hd := digits_any g (stepP [43, 45] l (p + 1)) A n c B true l _ hk.1 (bytes_only hl (hb2'.trans hk.2) hB h.lt) hB hsl hn
    generalize stepP [43, 45] l (p + 1) = q at *
    go_wp2_with fail
    refine hd.mono ?_
    rintro e w4 ⟨hor, hr4, hb4⟩
    rcases hor with ⟨ho, rfl⟩ | ⟨ho, rfl⟩
    · go_wp2
      go_end0
      exact ⟨.inl ⟨by rw [HW.out]; exact ho, rfl⟩, by rw [HW.out, Bool.or_true]; exact hr4, (hb2'.trans hk.2).trans hb4⟩
    · go_wp2
      exact ⟨rfl, .inr ⟨by rw [HW.out]; exact ho, by rw [HW.out]⟩, by rw [HW.out, Bool.or_true]; exact hr4, (hb2'.trans hk.2).trans hb4⟩
end Go.Proofs.YtchmchbgbchipaaDoor
