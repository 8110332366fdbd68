/-
  Layer 10: Same.
-/
import Derived.Test.YthoenmggjbojoaaFilAP
namespace Go.Proofs.Ythoenmggjbojoaa
open Go.RowKit
set_option linter.unusedVariables false

theorem same_no {l m : List UInt8} (h : ¬ l = m) : sameB l m = false := by unfold sameB; exact decide_eq_false h
theorem same_yes' {l m : List UInt8} (h : l = m) : sameB l m = true := by unfold sameB; exact decide_eq_true h
theorem take_map {L : List PcT} {k : Nat} {p : PcT} (h : L[k]? = some p) : (L.take (k + 1)).map (·.l) = (L.take k).map (·.l) ++ [p.l] := by
  rw [List.take_add_one, h]
  simp
set_option maxRecDepth 20000 in
set_option maxHeartbeats 2000000 in
theorem eqRows_any (A1 A2 : Option Addr) (n1 c1 n2 c2 B1 B2 : Nat) (L1 L2 : List PcT) (w : World) (h1 : Shows w B1 1 A1 n1 (L1.map PcT.val)) (h2 : Shows w B2 1 A2 n2 (L2.map PcT.val)) (o1 : ∀ p ∈ L1, p.Ok w w.heap.size) (o2 : ∀ p ∈ L2, p.Ok w w.heap.size) (hm1 : n1 ≤ maxLen) (b : Bool) (hb : decide (L1.map (·.l) = L2.map (·.l)) = b) :
    Calls Try.prog 42 #[.slice A1 n1 c1, .slice A2 n2 c2, .func (.func 22) #[] #[]] w fun e w' => e = .returned (.bool b) ∧ w = w' := by
  have l1 : L1.length = n1 := by have := h1.1; simpa using this
  have l2 : L2.length = n2 := by have := h2.1; simpa using this
  unfold maxLen at hm1
  by_cases hn : n1 = n2
  · have hne : ((n1 : Int) != (n2 : Int)) = false := by rw [bne_eq_false_iff_eq]; omega
    have Hl1 := Lib.hid l1
    have Hl2 := Lib.hid l2
    have Hb := Lib.hid hb
    have Hn := Lib.hid hn
    clear l1 l2 hb hn
    have H1 := Lib.hid h1
    have H2 := Lib.hid h2
    clear h1 h2
    go_enter Try.func42, Try.ntmps42
    go_wp2
    go_loopw [17] (fun iv wr => ∃ j : Nat, j ≤ n1 ∧ iv = .int .i64 j ∧ Hid ((L1.take j).map (·.l) = (L2.take j).map (·.l)) ∧ w = wr) (fun iv _ => n1 - (intOf iv).toNat)
    case atStart => exact ⟨0, Nat.zero_le _, rfl, Lib.hid rfl, rfl⟩
    case round =>
      obtain ⟨j, hj, rfl, HT, rfl⟩ := hrel
      by_cases hlt : j < n1
      · obtain ⟨b1, o1', p, rfl, _, hp, hc1⟩ := pc_at H1.out hlt
        obtain ⟨b2, o2', q, rfl, _, hq, hc2⟩ := pc_at H2.out (show j < n2 by have := Hn.out; omega)
        have hlt1 : (j : Int) < (n1 : Int) := by omega
        have hlt2 : (j : Int) < (n2 : Int) := by have := Hn.out; omega
        have hj0 : (0 : Int) ≤ (j : Int) := by omega
        have hpo := o1 p (List.mem_of_getElem? hp)
        have hqo := o2 q (List.mem_of_getElem? hq)
        by_cases he : p.l = q.l
        · have hc := bequal_any p.A q.A p.n p.c q.n q.c p.l q.l _ _ w hpo.here hqo.here true (same_yes' he)
          have HT2 := Lib.hid (show (L1.take (j + 1)).map (·.l) = (L2.take (j + 1)).map (·.l) by rw [take_map hp, take_map hq, HT.out, he])
          clear he hp hq HT hpo hqo
          go_wp2_with fail
          refine hc.mono ?_
          rintro e W ⟨rfl, rfl⟩
          clear hc
          go_wp2
          go_roundw
          case rel => exact ⟨j + 1, by omega, by go_num, HT2, by first | exact trivial | rfl⟩
          case measure => simp [intOf]; omega
        · have hc := bequal_any p.A q.A p.n p.c q.n q.c p.l q.l _ _ w hpo.here hqo.here false (same_no he)
          have HB := Lib.hid (show b = false by
            rw [← Hb.out]
            apply decide_eq_false
            intro e
            have := congrArg (fun l : List (List UInt8) => l[j]?) e
            simp only [List.getElem?_map, hp, hq, Option.map_some, Option.some.injEq] at this
            exact he this)
          clear he hp hq HT hpo hqo
          go_wp2_with fail
          refine hc.mono ?_
          rintro e W ⟨rfl, rfl⟩
          clear hc
          go_wp2
          go_ret
          exact ⟨by rw [HB.out]; rfl, rfl⟩
      · obtain rfl : j = n1 := by omega
        have HB := Lib.hid (show b = true by
          rw [← Hb.out]
          apply decide_eq_true
          have h := HT.out
          rw [List.take_of_length_le (by rw [Hl1.out]; exact Nat.le_refl _), List.take_of_length_le (by rw [Hl2.out, Hn.out]; exact Nat.le_refl _)] at h
          exact h)
        clear HT
        go_wp2
        go_ret
        exact ⟨by rw [HB.out]; rfl, rfl⟩
  · have hne : ((n1 : Int) != (n2 : Int)) = true := by rw [bne_iff_ne]; omega
    have HB := Lib.hid (show b = false by
      rw [← hb]
      apply decide_eq_false
      intro e
      have := congrArg List.length e
      rw [List.length_map, List.length_map, l1, l2] at this
      exact hn this)
    clear h1 h2 l1 l2 hb hn
    go_enter Try.func42, Try.ntmps42
    go_wp2
    go_ret
    exact ⟨by rw [HB.out]; rfl, rfl⟩
/-- Are two files one? -/
def sameS (S T : FileS) : Bool := (S.fuse == T.fuse) && ((S.fault == T.fault) && ((S.off == T.off) && (sameB S.firm T.firm && decide (S.loose = T.loose))))
set_option maxRecDepth 20000 in
set_option maxHeartbeats 2000000 in
theorem sameF_1 (X Y : FileT) (B : Nat) (w : World) (hX : LieF w B X) (hY : LieF w B Y) (hB : B ≤ w.heap.size) (hN1 : ∀ p ∈ X.Q, p.n ≤ 1048576) (hN2 : ∀ p ∈ Y.Q, p.n ≤ 1048576) (hr : X.right = false) :
    Calls Try.prog 18 #[X.agg, Y.agg] w fun e w' => e = .returned (.bool false) ∧ Below w.heap.size w w' := by
  have hb1 := bel_alloc (bel_alloc (Below.refl w.heap.size w) (.cells #[.slice X.F.A X.F.n X.F.c, .slice X.lA X.ln X.lc, .int .i64 X.fuse, .int .i64 X.fault, .bool X.off] 25)) (.cells #[.slice Y.F.A Y.F.n Y.F.c, .slice Y.lA Y.ln Y.lc, .int .i64 Y.fuse, .int .i64 Y.fault, .bool Y.off] 25)
  have HX1 := Lib.hid ((FBox.new w X 25).later (bel_alloc (Below.refl _ _) (.cells #[.slice Y.F.A Y.F.n Y.F.c, .slice Y.lA Y.ln Y.lc, .int .i64 Y.fuse, .int .i64 Y.fault, .bool Y.off] 25)))
  have hY1 := FBox.new (w.alloc (.cells #[.slice X.F.A X.F.n X.F.c, .slice X.lA X.ln X.lc, .int .i64 X.fuse, .int .i64 X.fault, .bool X.off] 25)) Y 25
  rw [World.size_alloc] at hY1
  obtain ⟨g0, g1, g2, g3, g4⟩ := hY1
  obtain ⟨f0, f1, f2, f3, f4⟩ := HX1.out
  have HY1 := Lib.hid (show FBox ((w.alloc (.cells #[.slice X.F.A X.F.n X.F.c, .slice X.lA X.ln X.lc, .int .i64 X.fuse, .int .i64 X.fault, .bool X.off] 25)).alloc (.cells #[.slice Y.F.A Y.F.n Y.F.c, .slice Y.lA Y.ln Y.lc, .int .i64 Y.fuse, .int .i64 Y.fault, .bool Y.off] 25)) (w.heap.size + 1) Y from ⟨g0, g1, g2, g3, g4⟩)
  have HcX := Lib.hid (fun W (h : Below w.heap.size w W) => checkF_any X B W (hX.later (h.mono hB)) (Nat.le_trans hB h.size) hN1)
  have HcY := Lib.hid (fun W (h : Below w.heap.size w W) => checkF_any Y B W (hY.later (h.mono hB)) (Nat.le_trans hB h.size) hN2)
  have HX := Lib.hid (fun W (h : Below w.heap.size w W) => (hX.later (h.mono hB)).more (Nat.le_trans hB h.size))
  have HY := Lib.hid (fun W (h : Below w.heap.size w W) => (hY.later (h.mono hB)).more (Nat.le_trans hB h.size))
  rw [hr] at HcX
  clear hr
  simp only [FileT.agg, PcT.val] at HcX HcY ⊢
  clear hX hY hN1 hN2 g0 g1 g2 g3 g4 f0 f1 f2 f3 f4
  have hY1 := FBox.new (w.alloc (.cells #[.slice X.F.A X.F.n X.F.c, .slice X.lA X.ln X.lc, .int .i64 X.fuse, .int .i64 X.fault, .bool X.off] 25)) Y 25
  rw [World.size_alloc] at hY1
  obtain ⟨g0, g1, g2, g3, g4⟩ := hY1
  obtain ⟨f0, f1, f2, f3, f4⟩ := HX1.out
  go_enter Try.func18, Try.ntmps18
  go_wp2_with fail
  generalize (w.alloc (.cells #[.slice X.F.A X.F.n X.F.c, .slice X.lA X.ln X.lc, .int .i64 X.fuse, .int .i64 X.fault, .bool X.off] 25)).alloc (.cells #[.slice Y.F.A Y.F.n Y.F.c, .slice Y.lA Y.ln Y.lc, .int .i64 Y.fuse, .int .i64 Y.fault, .bool Y.off] 25) = W1 at *
  refine (HcX.out _ hb1).mono ?_
  rintro e W2 ⟨rfl, hb2⟩
  clear f0 f1 f2 f3 f4 g0 g1 g2 g3 g4
  obtain ⟨f0, f1, f2, f3, f4⟩ := HX1.out.later hb2
  obtain ⟨g0, g1, g2, g3, g4⟩ := HY1.out.later hb2
  have HX2 := Lib.hid (show FBox W2 w.heap.size X from ⟨f0, f1, f2, f3, f4⟩)
  have HY2 := Lib.hid (show FBox W2 (w.heap.size + 1) Y from ⟨g0, g1, g2, g3, g4⟩)
  have hb3 := bel_next hb1 hb2
  clear HX1 HY1 hb1 hb2
  go_wp2
  all_goals
    go_ret
    exact ⟨rfl, hb3⟩
set_option maxRecDepth 20000 in
set_option maxHeartbeats 2000000 in
theorem sameF_2 (X Y : FileT) (B : Nat) (w : World) (hX : LieF w B X) (hY : LieF w B Y) (hB : B ≤ w.heap.size) (hN1 : ∀ p ∈ X.Q, p.n ≤ 1048576) (hN2 : ∀ p ∈ Y.Q, p.n ≤ 1048576) (hr : X.right = true) (hq : Y.right = false) :
    Calls Try.prog 18 #[X.agg, Y.agg] w fun e w' => e = .returned (.bool false) ∧ Below w.heap.size w w' := by
  have hb1 := bel_alloc (bel_alloc (Below.refl w.heap.size w) (.cells #[.slice X.F.A X.F.n X.F.c, .slice X.lA X.ln X.lc, .int .i64 X.fuse, .int .i64 X.fault, .bool X.off] 25)) (.cells #[.slice Y.F.A Y.F.n Y.F.c, .slice Y.lA Y.ln Y.lc, .int .i64 Y.fuse, .int .i64 Y.fault, .bool Y.off] 25)
  have HX1 := Lib.hid ((FBox.new w X 25).later (bel_alloc (Below.refl _ _) (.cells #[.slice Y.F.A Y.F.n Y.F.c, .slice Y.lA Y.ln Y.lc, .int .i64 Y.fuse, .int .i64 Y.fault, .bool Y.off] 25)))
  have hY1 := FBox.new (w.alloc (.cells #[.slice X.F.A X.F.n X.F.c, .slice X.lA X.ln X.lc, .int .i64 X.fuse, .int .i64 X.fault, .bool X.off] 25)) Y 25
  rw [World.size_alloc] at hY1
  obtain ⟨g0, g1, g2, g3, g4⟩ := hY1
  obtain ⟨f0, f1, f2, f3, f4⟩ := HX1.out
  have HY1 := Lib.hid (show FBox ((w.alloc (.cells #[.slice X.F.A X.F.n X.F.c, .slice X.lA X.ln X.lc, .int .i64 X.fuse, .int .i64 X.fault, .bool X.off] 25)).alloc (.cells #[.slice Y.F.A Y.F.n Y.F.c, .slice Y.lA Y.ln Y.lc, .int .i64 Y.fuse, .int .i64 Y.fault, .bool Y.off] 25)) (w.heap.size + 1) Y from ⟨g0, g1, g2, g3, g4⟩)
  have HcX := Lib.hid (fun W (h : Below w.heap.size w W) => checkF_any X B W (hX.later (h.mono hB)) (Nat.le_trans hB h.size) hN1)
  have HcY := Lib.hid (fun W (h : Below w.heap.size w W) => checkF_any Y B W (hY.later (h.mono hB)) (Nat.le_trans hB h.size) hN2)
  have HX := Lib.hid (fun W (h : Below w.heap.size w W) => (hX.later (h.mono hB)).more (Nat.le_trans hB h.size))
  have HY := Lib.hid (fun W (h : Below w.heap.size w W) => (hY.later (h.mono hB)).more (Nat.le_trans hB h.size))
  rw [hr] at HcX
  rw [hq] at HcY
  clear hr hq
  simp only [FileT.agg, PcT.val] at HcX HcY ⊢
  clear hX hY hN1 hN2 g0 g1 g2 g3 g4 f0 f1 f2 f3 f4
  have hY1 := FBox.new (w.alloc (.cells #[.slice X.F.A X.F.n X.F.c, .slice X.lA X.ln X.lc, .int .i64 X.fuse, .int .i64 X.fault, .bool X.off] 25)) Y 25
  rw [World.size_alloc] at hY1
  obtain ⟨g0, g1, g2, g3, g4⟩ := hY1
  obtain ⟨f0, f1, f2, f3, f4⟩ := HX1.out
  go_enter Try.func18, Try.ntmps18
  go_wp2_with fail
  generalize (w.alloc (.cells #[.slice X.F.A X.F.n X.F.c, .slice X.lA X.ln X.lc, .int .i64 X.fuse, .int .i64 X.fault, .bool X.off] 25)).alloc (.cells #[.slice Y.F.A Y.F.n Y.F.c, .slice Y.lA Y.ln Y.lc, .int .i64 Y.fuse, .int .i64 Y.fault, .bool Y.off] 25) = W1 at *
  refine (HcX.out _ hb1).mono ?_
  rintro e W2 ⟨rfl, hb2⟩
  clear f0 f1 f2 f3 f4 g0 g1 g2 g3 g4
  obtain ⟨f0, f1, f2, f3, f4⟩ := HX1.out.later hb2
  obtain ⟨g0, g1, g2, g3, g4⟩ := HY1.out.later hb2
  have HX2 := Lib.hid (show FBox W2 w.heap.size X from ⟨f0, f1, f2, f3, f4⟩)
  have HY2 := Lib.hid (show FBox W2 (w.heap.size + 1) Y from ⟨g0, g1, g2, g3, g4⟩)
  have hb3 := bel_next hb1 hb2
  clear HX1 HY1 hb1 hb2
  go_wp2_with fail
  refine (HcY.out _ hb3).mono ?_
  rintro e W3 ⟨rfl, hb4⟩
  clear f0 f1 f2 f3 f4 g0 g1 g2 g3 g4
  obtain ⟨f0, f1, f2, f3, f4⟩ := HX2.out.later hb4
  obtain ⟨g0, g1, g2, g3, g4⟩ := HY2.out.later hb4
  have hb5 := bel_next hb3 hb4
  clear HX2 HY2 hb3 hb4
  go_wp2
  all_goals
    go_ret
    exact ⟨rfl, hb5⟩
set_option maxRecDepth 20000 in
set_option maxHeartbeats 2000000 in
theorem sameF_3 (X Y : FileT) (B : Nat) (w : World) (hX : LieF w B X) (hY : LieF w B Y) (hB : B ≤ w.heap.size) (hN1 : ∀ p ∈ X.Q, p.n ≤ 1048576) (hN2 : ∀ p ∈ Y.Q, p.n ≤ 1048576) (hr : X.right = true) (hq : Y.right = true) :
    Calls Try.prog 18 #[X.agg, Y.agg] w fun e w' => e = .returned (.bool (sameS X.s Y.s)) ∧ Below w.heap.size w w' := by
  have hb1 := bel_alloc (bel_alloc (Below.refl w.heap.size w) (.cells #[.slice X.F.A X.F.n X.F.c, .slice X.lA X.ln X.lc, .int .i64 X.fuse, .int .i64 X.fault, .bool X.off] 25)) (.cells #[.slice Y.F.A Y.F.n Y.F.c, .slice Y.lA Y.ln Y.lc, .int .i64 Y.fuse, .int .i64 Y.fault, .bool Y.off] 25)
  have HX1 := Lib.hid ((FBox.new w X 25).later (bel_alloc (Below.refl _ _) (.cells #[.slice Y.F.A Y.F.n Y.F.c, .slice Y.lA Y.ln Y.lc, .int .i64 Y.fuse, .int .i64 Y.fault, .bool Y.off] 25)))
  have hY1 := FBox.new (w.alloc (.cells #[.slice X.F.A X.F.n X.F.c, .slice X.lA X.ln X.lc, .int .i64 X.fuse, .int .i64 X.fault, .bool X.off] 25)) Y 25
  rw [World.size_alloc] at hY1
  obtain ⟨g0, g1, g2, g3, g4⟩ := hY1
  obtain ⟨f0, f1, f2, f3, f4⟩ := HX1.out
  have HY1 := Lib.hid (show FBox ((w.alloc (.cells #[.slice X.F.A X.F.n X.F.c, .slice X.lA X.ln X.lc, .int .i64 X.fuse, .int .i64 X.fault, .bool X.off] 25)).alloc (.cells #[.slice Y.F.A Y.F.n Y.F.c, .slice Y.lA Y.ln Y.lc, .int .i64 Y.fuse, .int .i64 Y.fault, .bool Y.off] 25)) (w.heap.size + 1) Y from ⟨g0, g1, g2, g3, g4⟩)
  have HcX := Lib.hid (fun W (h : Below w.heap.size w W) => checkF_any X B W (hX.later (h.mono hB)) (Nat.le_trans hB h.size) hN1)
  have HcY := Lib.hid (fun W (h : Below w.heap.size w W) => checkF_any Y B W (hY.later (h.mono hB)) (Nat.le_trans hB h.size) hN2)
  have HX := Lib.hid (fun W (h : Below w.heap.size w W) => (hX.later (h.mono hB)).more (Nat.le_trans hB h.size))
  have HY := Lib.hid (fun W (h : Below w.heap.size w W) => (hY.later (h.mono hB)).more (Nat.le_trans hB h.size))
  rw [hr] at HcX
  rw [hq] at HcY
  clear hr hq
  obtain ⟨b, hb⟩ : ∃ b, sameS X.s Y.s = b := ⟨_, rfl⟩
  rw [hb]
  have Hb := Lib.hid hb
  clear hb
  simp only [FileT.agg, PcT.val] at HcX HcY ⊢
  clear hX hY hN1 hN2 g0 g1 g2 g3 g4 f0 f1 f2 f3 f4
  have hY1 := FBox.new (w.alloc (.cells #[.slice X.F.A X.F.n X.F.c, .slice X.lA X.ln X.lc, .int .i64 X.fuse, .int .i64 X.fault, .bool X.off] 25)) Y 25
  rw [World.size_alloc] at hY1
  obtain ⟨g0, g1, g2, g3, g4⟩ := hY1
  obtain ⟨f0, f1, f2, f3, f4⟩ := HX1.out
  go_enter Try.func18, Try.ntmps18
  go_wp2_with fail
  generalize (w.alloc (.cells #[.slice X.F.A X.F.n X.F.c, .slice X.lA X.ln X.lc, .int .i64 X.fuse, .int .i64 X.fault, .bool X.off] 25)).alloc (.cells #[.slice Y.F.A Y.F.n Y.F.c, .slice Y.lA Y.ln Y.lc, .int .i64 Y.fuse, .int .i64 Y.fault, .bool Y.off] 25) = W1 at *
  refine (HcX.out _ hb1).mono ?_
  rintro e W2 ⟨rfl, hb2⟩
  clear f0 f1 f2 f3 f4 g0 g1 g2 g3 g4
  obtain ⟨f0, f1, f2, f3, f4⟩ := HX1.out.later hb2
  obtain ⟨g0, g1, g2, g3, g4⟩ := HY1.out.later hb2
  have HX2 := Lib.hid (show FBox W2 w.heap.size X from ⟨f0, f1, f2, f3, f4⟩)
  have HY2 := Lib.hid (show FBox W2 (w.heap.size + 1) Y from ⟨g0, g1, g2, g3, g4⟩)
  have hb3 := bel_next hb1 hb2
  clear HX1 HY1 hb1 hb2
  go_wp2_with fail
  refine (HcY.out _ hb3).mono ?_
  rintro e W3 ⟨rfl, hb4⟩
  clear f0 f1 f2 f3 f4 g0 g1 g2 g3 g4
  obtain ⟨f0, f1, f2, f3, f4⟩ := HX2.out.later hb4
  obtain ⟨g0, g1, g2, g3, g4⟩ := HY2.out.later hb4
  have hb5 := bel_next hb3 hb4
  clear HX2 HY2 hb3 hb4
  by_cases e1 : X.fuse = Y.fuse
  · have e1' : (X.fuse == Y.fuse) = true := beq_iff_eq.2 e1
    by_cases e2 : X.fault = Y.fault
    · have e2' : (X.fault == Y.fault) = true := beq_iff_eq.2 e2
      by_cases e3 : X.off = Y.off
      · have e3' : (X.off == Y.off) = true := beq_iff_eq.2 e3
        have hXl := HX.out _ hb5
        have hYl := HY.out _ hb5
        by_cases e4 : X.F.l = Y.F.l
        · have hc := bequal_any X.F.A Y.F.A X.F.n X.F.c Y.F.n Y.F.c X.F.l Y.F.l _ _ _ hXl.firm.here hYl.firm.here true (same_yes' e4)
          have hd := eqRows_any X.lA Y.lA X.ln X.lc Y.ln Y.lc _ _ X.L Y.L _ hXl.row hYl.row hXl.loose hYl.loose (Nat.le_trans hXl.fits hXl.most) b (by
            rw [← Hb.out]
            unfold sameS
            rw [show (X.s.fuse == Y.s.fuse) = true from e1', show (X.s.fault == Y.s.fault) = true from e2', show (X.s.off == Y.s.off) = true from e3', show sameB X.s.firm Y.s.firm = true from same_yes' e4]
            rfl)
          clear e1 e2 e3 e4 hXl hYl Hb
          go_wp2_with fail
          refine hc.mono ?_
          rintro e W4 ⟨rfl, rfl⟩
          clear hc
          go_wp2_with fail
          refine hd.mono ?_
          rintro e W4 ⟨rfl, rfl⟩
          clear hd
          go_wp2
          all_goals
            go_ret
            exact ⟨rfl, hb5⟩
        · have hc := bequal_any X.F.A Y.F.A X.F.n X.F.c Y.F.n Y.F.c X.F.l Y.F.l _ _ _ hXl.firm.here hYl.firm.here false (same_no e4)
          have HB := Lib.hid (show b = false by
            rw [← Hb.out]
            unfold sameS
            rw [show sameB X.s.firm Y.s.firm = false from same_no e4]
            simp)
          clear e1 e2 e3 e4 hXl hYl Hb
          go_wp2_with fail
          refine hc.mono ?_
          rintro e W4 ⟨rfl, rfl⟩
          clear hc
          go_wp2
          all_goals
            go_ret
            exact ⟨by rw [HB.out]; rfl, hb5⟩
      · have e3' : (X.off == Y.off) = false := beq_eq_false_iff_ne.2 e3
        have HB := Lib.hid (show b = false by
          rw [← Hb.out]
          unfold sameS
          rw [show (X.s.off == Y.s.off) = false from e3']
          simp)
        clear e1 e2 e3 Hb
        go_wp2
        all_goals
          go_ret
          exact ⟨by rw [HB.out]; rfl, hb5⟩
    · have e2' : (X.fault == Y.fault) = false := beq_eq_false_iff_ne.2 e2
      have HB := Lib.hid (show b = false by
        rw [← Hb.out]
        unfold sameS
        rw [show (X.s.fault == Y.s.fault) = false from e2']
        simp)
      clear e1 e2 Hb
      go_wp2
      all_goals
        go_ret
        exact ⟨by rw [HB.out]; rfl, hb5⟩
  · have e1' : (X.fuse == Y.fuse) = false := beq_eq_false_iff_ne.2 e1
    have HB := Lib.hid (show b = false by
      rw [← Hb.out]
      unfold sameS
      rw [show (X.s.fuse == Y.s.fuse) = false from e1']
      simp)
    clear e1 Hb
    go_wp2
    all_goals
      go_ret
      exact ⟨by rw [HB.out]; rfl, hb5⟩
theorem sameF_any (X Y : FileT) (B : Nat) (w : World) (hX : LieF w B X) (hY : LieF w B Y) (hB : B ≤ w.heap.size) (hN1 : ∀ p ∈ X.Q, p.n ≤ 1048576) (hN2 : ∀ p ∈ Y.Q, p.n ≤ 1048576) :
    Calls Try.prog 18 #[X.agg, Y.agg] w fun e w' => e = .returned (.bool (X.right && (Y.right && sameS X.s Y.s))) ∧ Below w.heap.size w w' := by
  cases hr : X.right
  · exact sameF_1 X Y B w hX hY hB hN1 hN2 hr
  · cases hq : Y.right
    · exact sameF_2 X Y B w hX hY hB hN1 hN2 hr hq
    · exact sameF_3 X Y B w hX hY hB hN1 hN2 hr hq
end Go.Proofs.Ythoenmggjbojoaa
