import Derived.Test.YtkbcgcokokddlaaGak
/-
  The law MergeChecks, walked.
-/
namespace Go.Proofs.Ytkbcgcokokddlaa
open Go.RowKit
set_option linter.unusedVariables false
set_option linter.unusedSimpArgs false

set_option maxRecDepth 20000 in
set_option maxHeartbeats 2000000 in
theorem mergeChecks_walk (w : World) (X : EsT) (hX : X.Lie w w.heap.size) (A1 : Option Addr) (n1 c1 : Nat) (l1 : List UInt8) (h1 : Bytes w w.heap.size A1 n1 l1) (z1 : A1 = none → c1 = 0) (y1 : n1 ≤ c1) (x1 : c1 ≤ maxLen) (A2 : Option Addr) (n2 c2 : Nat) (l2 : List UInt8) (h2 : Bytes w w.heap.size A2 n2 l2) (z2 : A2 = none → c2 = 0) (y2 : n2 ≤ c2) (x2 : c2 ≤ maxLen) :
    Calls Try.prog 3 #[.slice X.A X.n X.c, .slice A1 n1 c1, .slice A2 n2 c2] w fun e w' => e = .returned (.bool true) ∧ Below w.heap.size w w' := by
  have HP1 : Hid ((⟨A1, n1, c1, l1⟩ : PcT).Ok w w.heap.size) := Lib.hid ⟨h1, z1, y1, x1⟩
  have HP2 : Hid ((⟨A2, n2, c2, l2⟩ : PcT).Ok w w.heap.size) := Lib.hid ⟨h2, z2, y2, x2⟩
  have HX := Lib.hid hX
  clear hX h1 z1 y1 x1 h2 z2 y2 x2
  go_enter Try.func3, Try.ntmps3
  go_wp2_with fail
  refine (mwakes_any _).mono ?_
  rintro e W1 ⟨rfl, hb1⟩
  have hf := mfew_any X 80 w.heap.size W1 (HX.out.later hb1) hb1.size (by decide)
  rw [show ((80 : Nat) : Int) = 80 from rfl] at hf
  go_wp2_with fail
  refine hf.mono ?_
  rintro e W2 ⟨hb2, ⟨YA, Yn, Yc, YE⟩, rfl, hys, hyo⟩
  have hy := hyo.lie
  have hb02 := bel_next hb1 hb2
  have hr := rright_any ⟨YA, Yn, Yc, YE⟩ W2.heap.size W2 hy (Nat.le_refl _)
  clear hf hys hyo hb1 hb2
  go_wp2_with fail
  refine hr.mono ?_
  rintro e W3 ⟨z, rfl, hz, hb3⟩
  have hck := mcheck_any ⟨YA, Yn, Yc, YE⟩ W3.heap.size W3 (hy.next hb3) (Nat.le_refl _)
  have hb03 := bel_next hb02 hb3
  have HZ := Lib.hid hz
  clear hr hz hb02 hb3 hy
  obtain ⟨tl, htl⟩ : ∃ tl, decide (cmpL l1 l2 < 0) = tl := ⟨_, rfl⟩
  have HL1 : Hid (∀ W, Below w.heap.size w W → Calls Try.prog 14 #[.slice A1 n1 c1, .slice A2 n2 c2] W fun e w' => e = .returned (.bool tl) ∧ w' = W) := Lib.hid (fun W h => by
    have := mless_any ⟨A1, n1, c1, l1⟩ ⟨A2, n2, c2, l2⟩ _ _ W (HP1.out.later h) (HP2.out.later h)
    rw [← htl]
    exact this)
  have HA1 : Hid (∀ W, Below w.heap.size w W → Calls Try.prog 15 #[.slice A1 n1 c1, .slice A2 n2 c2] W fun e w' => e = .returned (.bool tl) ∧ W = w') := Lib.hid (fun W h => by
    have := rahead_any ⟨A1, n1, c1, l1⟩ ⟨A2, n2, c2, l2⟩ _ _ W (HP1.out.later h) (HP2.out.later h)
    rw [← htl]
    exact this)
  have HL2 : Hid (∀ W, Below w.heap.size w W → Calls Try.prog 14 #[.slice A1 n1 c1, .slice A1 n1 c1] W fun e w' => e = .returned (.bool false) ∧ w' = W) := Lib.hid (fun W h => by
    have := mless_any ⟨A1, n1, c1, l1⟩ ⟨A1, n1, c1, l1⟩ _ _ W (HP1.out.later h) (HP1.out.later h)
    simp only at this
    rw [cmpL_self] at this
    exact this)
  clear htl
  have tt : (tl == tl) = true := by simp
  cases z
  · go_wp2_with fail
    refine hck.mono ?_
    rintro e W4 ⟨hb4, ⟨rfl, hno⟩ | ⟨rfl, -⟩⟩
    · exact absurd (HZ.out.2 hno) Bool.noConfusion
    have hb5 := bel_next hb03 hb4
    clear hck hb03 hb4
    have k1 := HL1.out W4 hb5
    have k2 := HA1.out W4 hb5
    have k3 := HL2.out W4 hb5
    go_wp2_with fail
    refine k1.mono ?_
    rintro e W5 ⟨rfl, hw5⟩
    subst hw5
    clear k1
    go_wp2_with fail
    refine k2.mono ?_
    rintro e W6 ⟨rfl, hw6⟩
    subst hw6
    clear k2
    go_wp2_with fail
    refine k3.mono ?_
    rintro e W7 ⟨rfl, hw7⟩
    subst hw7
    go_wp2
    go_ret
    exact ⟨rfl, hb5⟩
  · go_wp2_with fail
    refine hck.mono ?_
    rintro e W4 ⟨hb4, ⟨rfl, -⟩ | ⟨rfl, hno⟩⟩
    rotate_left
    · exact absurd (HZ.out.1 (by first | trivial | rfl)) hno
    have hb5 := bel_next hb03 hb4
    clear hck hb03 hb4
    have k1 := HL1.out W4 hb5
    have k2 := HA1.out W4 hb5
    have k3 := HL2.out W4 hb5
    go_wp2_with fail
    refine k1.mono ?_
    rintro e W5 ⟨rfl, hw5⟩
    subst hw5
    clear k1
    go_wp2_with fail
    refine k2.mono ?_
    rintro e W6 ⟨rfl, hw6⟩
    subst hw6
    clear k2
    go_wp2_with fail
    refine k3.mono ?_
    rintro e W7 ⟨rfl, hw7⟩
    subst hw7
    go_wp2
    go_ret
    exact ⟨rfl, hb5⟩
end Go.Proofs.Ytkbcgcokokddlaa
