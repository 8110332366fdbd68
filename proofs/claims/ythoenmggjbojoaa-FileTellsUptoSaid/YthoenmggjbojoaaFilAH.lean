/-
  Layer 10: Read.
-/
import Derived.Test.YthoenmggjbojoaaFilAG
namespace Go.Proofs.Ythoenmggjbojoaa
open Go.RowKit
set_option linter.unusedVariables false

/-- What Read gives of a right file. -/
def ReadP (X : FileT) (a n : Nat) (w : World) (e : Ending) (w' : World) : Prop :=
  ∃ p : PcT, e = .returned (.tuple #[.slice p.A p.n p.c, .int .i64 0]) ∧ p.l = between X.all a (a + n) ∧ p.Ok w' w'.heap.size ∧ Below w.heap.size w w' ∧ ∀ g, g < w.heap.size → AwayF X g → AwayP p g
set_option maxRecDepth 20000 in
set_option maxHeartbeats 2000000 in
theorem readF_bad (X : FileT) (a n : Int) (B : Nat) (w : World) (hL : LieF w B X) (hB : B ≤ w.heap.size) (hN : ∀ p ∈ X.Q, p.n ≤ 1048576) (hr : X.right = false) :
    Calls Try.prog 19 #[X.agg, .int .i64 a, .int .i64 n] w fun e w' => e = .returned (.tuple #[.slice none 0 0, .int .i64 200]) ∧ Below w.heap.size w w' := by
  have hb1 := bel_alloc (Below.refl w.heap.size w) (.cells #[.slice X.F.A X.F.n X.F.c, .slice X.lA X.ln X.lc, .int .i64 X.fuse, .int .i64 X.fault, .bool X.off] 25)
  have HX := Lib.hid (FBox.new w X 25)
  have hch := checkF_any X B _ (hL.later (hb1.mono hB)) (Nat.le_trans hB hb1.size) hN
  rw [hr] at hch
  have Hr := Lib.hid hr
  simp only [FileT.agg, PcT.val] at *
  clear hL hN hr
  go_enter Try.func19, Try.ntmps19
  go_wp2_with fail
  generalize w.alloc (.cells #[.slice X.F.A X.F.n X.F.c, .slice X.lA X.ln X.lc, .int .i64 X.fuse, .int .i64 X.fault, .bool X.off] 25) = W1 at *
  refine hch.mono ?_
  rintro e W2 ⟨rfl, hb2⟩
  have hb3 := bel_next hb1 hb2
  obtain ⟨f0, f1, f2, f3, f4⟩ := HX.out.later hb2
  clear hch hb1 hb2 HX
  go_wp2
  all_goals
    (try rw [Exit.noGoto_ret])
    go_ret2
    exact ⟨rfl, hb3⟩
set_option maxRecDepth 20000 in
set_option maxHeartbeats 2000000 in
theorem readF_arg (X : FileT) (a n : Int) (B : Nat) (w : World) (hL : LieF w B X) (hB : B ≤ w.heap.size) (hN : ∀ p ∈ X.Q, p.n ≤ 1048576) (hr : X.right = true) (h : a < 0 ∨ n < 0) :
    Calls Try.prog 19 #[X.agg, .int .i64 a, .int .i64 n] w fun e w' => e = .returned (.tuple #[.slice none 0 0, .int .i64 2]) ∧ Below w.heap.size w w' := by
  have hb1 := bel_alloc (Below.refl w.heap.size w) (.cells #[.slice X.F.A X.F.n X.F.c, .slice X.lA X.ln X.lc, .int .i64 X.fuse, .int .i64 X.fault, .bool X.off] 25)
  have HX := Lib.hid (FBox.new w X 25)
  have hch := checkF_any X B _ (hL.later (hb1.mono hB)) (Nat.le_trans hB hb1.size) hN
  rw [hr] at hch
  have Hr := Lib.hid hr
  simp only [FileT.agg, PcT.val] at *
  clear hL hN hr
  go_enter Try.func19, Try.ntmps19
  go_wp2_with fail
  generalize w.alloc (.cells #[.slice X.F.A X.F.n X.F.c, .slice X.lA X.ln X.lc, .int .i64 X.fuse, .int .i64 X.fault, .bool X.off] 25) = W1 at *
  refine hch.mono ?_
  rintro e W2 ⟨rfl, hb2⟩
  have hb3 := bel_next hb1 hb2
  obtain ⟨f0, f1, f2, f3, f4⟩ := HX.out.later hb2
  clear hch hb1 hb2 HX
  by_cases h1 : a < 0
  · clear h
    go_wp2
    all_goals
      (try rw [Exit.noGoto_ret])
      go_ret2
      exact ⟨rfl, hb3⟩
  · have h2 : n < 0 := by omega
    clear h
    go_wp2
    all_goals
      (try rw [Exit.noGoto_ret])
      go_ret2
      exact ⟨rfl, hb3⟩
set_option maxRecDepth 20000 in
set_option maxHeartbeats 2000000 in
theorem readF_short (X : FileT) (a n : Nat) (B : Nat) (w : World) (hL : LieF w B X) (hB : B ≤ w.heap.size) (hN : ∀ p ∈ X.Q, p.n ≤ 1048576) (hr : X.right = true) (ha : (Lit.int .i64 (a : Int)).wf = true) (hn : (Lit.int .i64 (n : Int)).wf = true) (h : X.long < a + n) :
    Calls Try.prog 19 #[X.agg, .int .i64 a, .int .i64 n] w fun e w' => e = .returned (.tuple #[.slice none 0 0, .int .i64 6]) ∧ Below w.heap.size w w' := by
  have hb1 := bel_alloc (Below.refl w.heap.size w) (.cells #[.slice X.F.A X.F.n X.F.c, .slice X.lA X.ln X.lc, .int .i64 X.fuse, .int .i64 X.fault, .bool X.off] 25)
  have HX := Lib.hid (FBox.new w X 25)
  have hch := checkF_any X B _ (hL.later (hb1.mono hB)) (Nat.le_trans hB hb1.size) hN
  rw [hr] at hch
  have Hr := Lib.hid hr
  have Hle := Lib.hid (fun W (h : Below w.heap.size w W) => length_any X B W (hL.later (h.mono hB)) (Nat.le_trans hB h.size) hN)
  have hl := (right_rows hL hr).2.1
  have hwa := wf_i64 ha
  have hwn := wf_i64 hn
  clear ha hn
  have h1 : ¬ (a : Int) < 0 := by omega
  have h2 : ¬ (n : Int) < 0 := by omega
  simp only [FileT.agg, PcT.val] at *
  clear hL hN hr
  go_enter Try.func19, Try.ntmps19
  go_wp2_with fail
  generalize w.alloc (.cells #[.slice X.F.A X.F.n X.F.c, .slice X.lA X.ln X.lc, .int .i64 X.fuse, .int .i64 X.fault, .bool X.off] 25) = W1 at *
  refine hch.mono ?_
  rintro e W2 ⟨rfl, hb2⟩
  have hb3 := bel_next hb1 hb2
  obtain ⟨f0, f1, f2, f3, f4⟩ := HX.out.later hb2
  clear hch hb1 hb2 HX
  generalize X.long = lo at *
  have e1 : IntKind.i64.wrap ((lo : Int) - (n : Int)) = (lo : Int) - (n : Int) := by rw [IntKind.wrap_i64]; omega
  have e2 : wrap64 ((lo : Int) - (n : Int)) = (lo : Int) - (n : Int) := by unfold wrap64; omega
  have h3 : ((lo : Int) - (n : Int) < (a : Int)) = True := by simp; omega
  clear h hl hwa hwn
  go_wp2_with fail
  refine (Hle.out _ hb3).mono ?_
  rintro e W3 ⟨rfl, hb4⟩
  have hb3 := bel_next hb3 hb4
  clear Hle hb4 f0 f1 f2 f3 f4
  go_wp2
  all_goals
    (try rw [Exit.noGoto_ret])
    go_ret2
    exact ⟨rfl, hb3⟩
set_option maxRecDepth 20000 in
set_option maxHeartbeats 2000000 in
theorem readF_ok (X : FileT) (a n : Nat) (B : Nat) (w : World) (hL : LieF w B X) (hB : B ≤ w.heap.size) (hN : ∀ p ∈ X.Q, p.n ≤ 1048576) (hr : X.right = true) (h : a + n ≤ X.long) :
    Calls Try.prog 19 #[X.agg, .int .i64 a, .int .i64 n] w (ReadP X a n w) := by
  have hb1 := bel_alloc (Below.refl w.heap.size w) (.cells #[.slice X.F.A X.F.n X.F.c, .slice X.lA X.ln X.lc, .int .i64 X.fuse, .int .i64 X.fault, .bool X.off] 25)
  have HX := Lib.hid (FBox.new w X 25)
  have hch := checkF_any X B _ (hL.later (hb1.mono hB)) (Nat.le_trans hB hb1.size) hN
  rw [hr] at hch
  have Hr := Lib.hid hr
  have Hle := Lib.hid (fun W (h : Below w.heap.size w W) => length_any X B W (hL.later (h.mono hB)) (Nat.le_trans hB h.size) hN)
  have hl := (right_rows hL hr).2.1
  obtain ⟨hlong, hmax⟩ := right_all hL hr
  have Hsp := Lib.hid (fun W (h2 : Below w.heap.size w W) => span_any X a n B W (hL.later (h2.mono hB)) (Nat.le_trans hB h2.size) hN hl (by omega) hmax)
  have h1 : ¬ (a : Int) < 0 := by omega
  have h2 : ¬ (n : Int) < 0 := by omega
  simp only [FileT.agg, PcT.val] at *
  clear hL hN hr
  go_enter Try.func19, Try.ntmps19
  go_wp2_with fail
  generalize w.alloc (.cells #[.slice X.F.A X.F.n X.F.c, .slice X.lA X.ln X.lc, .int .i64 X.fuse, .int .i64 X.fault, .bool X.off] 25) = W1 at *
  refine hch.mono ?_
  rintro e W2 ⟨rfl, hb2⟩
  have hb3 := bel_next hb1 hb2
  obtain ⟨f0, f1, f2, f3, f4⟩ := HX.out.later hb2
  clear hch hb1 hb2 HX
  generalize X.long = lo at *
  have e1 : IntKind.i64.wrap ((lo : Int) - (n : Int)) = (lo : Int) - (n : Int) := by rw [IntKind.wrap_i64]; omega
  have e2 : wrap64 ((lo : Int) - (n : Int)) = (lo : Int) - (n : Int) := by unfold wrap64; omega
  have h3 : ((lo : Int) - (n : Int) < (a : Int)) = False := by simp; omega
  clear h hl hlong hmax
  have HX2 := Lib.hid (show FBox W2 w.heap.size X from ⟨f0, f1, f2, f3, f4⟩)
  go_wp2_with fail
  refine (Hle.out _ hb3).mono ?_
  rintro e W3 ⟨rfl, hb4⟩
  clear f0 f1 f2 f3 f4
  obtain ⟨f0, f1, f2, f3, f4⟩ := HX2.out.later hb4
  have hb5 := bel_next hb3 hb4
  clear Hle HX2 hb4
  go_wp2_with fail
  refine (Hsp.out _ hb5).mono ?_
  rintro e W4 ⟨p, rfl, hpl, hpo, hb6, hpa⟩
  have hs5 := hb5.size
  have HP := Lib.hid (And.intro hpl hpo)
  have HA := Lib.hid (show ∀ g, g < w.heap.size → AwayF X g → AwayP p g from fun g hg ha => hpa g (by omega) ha)
  have hb7 := bel_next hb5 hb6
  clear Hsp hpl hpo hpa hb6 hb5 hb3 f0 f1 f2 f3 f4
  go_wp2
  all_goals
    (try rw [Exit.noGoto_ret])
    go_ret2
    exact ⟨p, rfl, HP.out.1, HP.out.2, hb7, HA.out⟩
end Go.Proofs.Ythoenmggjbojoaa
