import Derived.Test.YtghmehfmchadoaaDoorGah
import Derived.Deep.CutBlock
/-
  Layer 10: the reference's Same.
-/
namespace Go.Proofs.YtghmehfmchadoaaDoor
open Go.RowKit
set_option linter.unusedVariables false

set_option maxRecDepth 20000 in
set_option maxHeartbeats 1000000 in
theorem rbytes_any (A1 A2 : Option Addr) (n1 c1 n2 c2 : Nat) (l1 l2 : List UInt8) (B1 B2 : Nat) (w : World) (h1 : Bytes w B1 A1 n1 l1) (h2 : Bytes w B2 A2 n2 l2) (b : Bool) (hb : sameB l1 l2 = b) :
    Calls Tryd.prog 36 #[.slice A1 n1 c1, .slice A2 n2 c2] w fun e w' => e = .returned (.bool b) ∧ w = w' := by
  have k1 := run_bytes_string (P := Tryd.prog) Tryd.underlying22 Tryd.underlying5 Tryd.underlying9 w A1 n1 c1 B1 l1 h1
  have k2 := run_bytes_string (P := Tryd.prog) Tryd.underlying22 Tryd.underlying5 Tryd.underlying9 w A2 n2 c2 B2 l2 h2
  have hbe : ((ofL l1).toList == (ofL l2).toList) = b := (bofL_beq l1 l2).trans hb
  generalize ofL l1 = s1 at *
  generalize ofL l2 = s2 at *
  clear h1 h2 hb
  go_enter Tryd.func36, Tryd.ntmps36
  go_wp2
  go_ret
  exact ⟨rfl, rfl⟩
set_option maxRecDepth 20000 in
set_option maxHeartbeats 2000000 in
theorem refSame_any (X Y : FileT) (B : Nat) (w : World) (hX : LieF w B X) (hY : LieF w B Y) (hB : B ≤ w.heap.size) :
    Calls Tryd.prog 14 #[X.agg, Y.agg] w fun e w' => e = .returned (.bool (sameS X.s Y.s)) ∧ Below w.heap.size w w' := by
  have hb1 := bel_alloc (bel_alloc (Below.refl w.heap.size w) (.cells #[.slice X.F.A X.F.n X.F.c, .slice X.lA X.ln X.lc, .int .i64 X.fuse, .int .i64 X.fault, .bool X.off] 25)) (.cells #[.slice Y.F.A Y.F.n Y.F.c, .slice Y.lA Y.ln Y.lc, .int .i64 Y.fuse, .int .i64 Y.fault, .bool Y.off] 25)
  have HX1 := Lib.hid ((FBox.new w X 25).later (bel_alloc (Below.refl _ _) (.cells #[.slice Y.F.A Y.F.n Y.F.c, .slice Y.lA Y.ln Y.lc, .int .i64 Y.fuse, .int .i64 Y.fault, .bool Y.off] 25)))
  have hY1 := FBox.new (w.alloc (.cells #[.slice X.F.A X.F.n X.F.c, .slice X.lA X.ln X.lc, .int .i64 X.fuse, .int .i64 X.fault, .bool X.off] 25)) Y 25
  rw [World.size_alloc] at hY1
  have HY1 := Lib.hid hY1
  obtain ⟨g0, g1, g2, g3, g4⟩ := hY1
  obtain ⟨f0, f1, f2, f3, f4⟩ := HX1.out
  have HX := Lib.hid (fun W (h : Below w.heap.size w W) => (hX.later (h.mono hB)).more (Nat.le_trans hB h.size))
  have HY := Lib.hid (fun W (h : Below w.heap.size w W) => (hY.later (h.mono hB)).more (Nat.le_trans hB h.size))
  obtain ⟨b, hb⟩ : ∃ b, sameS X.s Y.s = b := ⟨_, rfl⟩
  rw [hb]
  have Hb := Lib.hid hb
  clear hb
  simp only [FileT.agg, PcT.val]
  clear hX hY
  go_enter Tryd.func14, Tryd.ntmps14
  go_upto_region 1 with fail
  generalize (w.alloc (.cells #[.slice X.F.A X.F.n X.F.c, .slice X.lA X.ln X.lc, .int .i64 X.fuse, .int .i64 X.fault, .bool X.off] 25)).alloc (.cells #[.slice Y.F.A Y.F.n Y.F.c, .slice Y.lA Y.ln Y.lc, .int .i64 Y.fuse, .int .i64 Y.fault, .bool Y.off] 25) = W1 at *
  by_cases e1 : X.fuse = Y.fuse
  · have e1' : (X.fuse != Y.fuse) = false := by rw [bne, beq_iff_eq.2 e1]; rfl
    by_cases e2 : X.fault = Y.fault
    · have e2' : (X.fault != Y.fault) = false := by rw [bne, beq_iff_eq.2 e2]; rfl
      by_cases e3 : X.off = Y.off
      · have e3' : (X.off == Y.off) = true := beq_iff_eq.2 e3
        by_cases e5 : X.ln = Y.ln
        · have e5' : ((X.ln : Int) != (Y.ln : Int)) = false := by rw [e5, bne_self_eq_false]
          have hXl := HX.out _ hb1
          have hYl := HY.out _ hb1
          by_cases e4 : X.F.l = Y.F.l
          · have hc := rbytes_any X.F.A Y.F.A X.F.n X.F.c Y.F.n Y.F.c X.F.l Y.F.l _ _ _ hXl.firm.here hYl.firm.here true (same_yes' e4)
            have HD := Lib.hid (show decide (X.L.map (·.l) = Y.L.map (·.l)) = b by
              rw [← Hb.out]
              unfold sameS
              rw [show (X.s.fuse == Y.s.fuse) = true from beq_iff_eq.2 e1, show (X.s.fault == Y.s.fault) = true from beq_iff_eq.2 e2, show (X.s.off == Y.s.off) = true from beq_iff_eq.2 e3, show sameB X.s.firm Y.s.firm = true from same_yes' e4]
              rfl)
            have HN := Lib.hid e5
            have Hl1 := Lib.hid hXl.len
            have Hl2 := Lib.hid hYl.len
            have hln9 : X.ln ≤ 9223372036854775807 := by
              have h1 := hXl.fits
              have h2 := hXl.most
              unfold maxLen at h2
              omega
            clear e1 e2 e3 e4 e5 hXl hYl Hb
            go_wp2_with fail
            refine hc.mono ?_
            rintro e W4 ⟨rfl, rfl⟩
            clear hc
            go_wp2
            clear f0 f1 f2 f3 f4 g0 g1 g2 g3 g4 e1' e2' e3' e5'
            go_loopw [5] (fun iv wr => ∃ j : Nat, j ≤ X.ln ∧ iv = .int .i64 j ∧ Hid ((X.L.take j).map (·.l) = (Y.L.take j).map (·.l)) ∧ Below W1.heap.size W1 wr) (fun iv _ => X.ln - (intOf iv).toNat)
            case atStart => exact ⟨0, Nat.zero_le _, rfl, Lib.hid rfl, Below.refl _ _⟩
            case round =>
              obtain ⟨j, hj, rfl, HT, hbr⟩ := hrel
              rename World => wr
              have hbx := HX1.out.later hbr
              have f1 := hbx.2.1
              by_cases hlt : j < X.ln
              · have hbW := hb1.trans (hbr.mono hb1.size)
                obtain ⟨b1, o1', p, hA1, _, hp, hc1⟩ := pc_at (HX.out _ hbW).row hlt
                obtain ⟨b2, o2', q, hA2, _, hq, hc2⟩ := pc_at (HY.out _ hbW).row (show j < Y.ln by have := HN.out; omega)
                have hlt1 : (j : Int) < (X.ln : Int) := by omega
                have hlt2 : (j : Int) < (Y.ln : Int) := by have := HN.out; omega
                have hj0 : (0 : Int) ≤ (j : Int) := by omega
                have hpo := (HX.out _ hbW).loose p (List.mem_of_getElem? hp)
                have hqo := (HY.out _ hbW).loose q (List.mem_of_getElem? hq)
                have x1 : ∀ W, Below wr.heap.size wr W → W.cell? ⟨w.heap.size, 1, none⟩ = some (.slice (some ⟨b1, o1', none⟩) X.ln X.lc) := fun W h => by rw [← hA1]; exact (hbx.later h).2.1
                have y1 : ∀ W, Below wr.heap.size wr W → W.cell? ⟨w.heap.size + 1, 1, none⟩ = some (.slice (some ⟨b2, o2', none⟩) Y.ln Y.lc) := fun W h => by rw [← hA2]; exact ((HY1.out.later hbr).later h).2.1
                have c1 : ∀ W, Below wr.heap.size wr W → W.cell? ⟨b1, o1' + j, none⟩ = some (.slice p.A p.n p.c) := fun W h => kept_later h hc1
                have c2 : ∀ W, Below wr.heap.size wr W → W.cell? ⟨b2, o2' + j, none⟩ = some (.slice q.A q.n q.c) := fun W h => kept_later h hc2
                by_cases he : p.l = q.l
                · have Hc := Lib.hid (fun W (h : Below wr.heap.size wr W) => rbytes_any p.A q.A p.n p.c q.n q.c p.l q.l _ _ W (hpo.later h).here (hqo.later h).here true (same_yes' he))
                  have HT2 := Lib.hid (show (X.L.take (j + 1)).map (·.l) = (Y.L.take (j + 1)).map (·.l) by rw [take_map hp, take_map hq, HT.out, he])
                  clear he hp hq HT hpo hqo hc1 hc2 hA1 hA2 hbW hbx
                  go_upto_region 6 with fail
                  clear f1
                  refine wp_region_held_drew (S := fun W => Below wr.heap.size wr W) (by kernel_rfl) (below_drewN (Below.refl _ _) 1) (fun hHeld => ?_)
                  refine rg_in 0 rfl (by kernel_rfl) (by kernel_rfl) (by kernel_rfl) (by rfl) (v := ?_) (fun _ _ _ h => h) hHeld (fun w hSw => ?_) ?_
                  rotate_left
                  · (try dsimp only at hSw); go_simp <;> (with_reducible rfl)
                  (try simp only [Act.put, List.setIfInBounds_toArray, List.set_cons_zero, List.set_cons_succ])
                  refine rg_in 1 rfl (by kernel_rfl) (by kernel_rfl) (by kernel_rfl) (by rfl) (v := ?_) (fun _ _ _ h => h) hHeld (fun w hSw => ?_) ?_
                  rotate_left
                  · (try dsimp only at hSw); go_simp <;> (with_reducible rfl)
                  (try simp only [Act.put, List.setIfInBounds_toArray, List.set_cons_zero, List.set_cons_succ])
                  refine rg_in 2 rfl (by kernel_rfl) (by kernel_rfl) (by kernel_rfl) (by rfl) (v := ?_) (fun _ _ _ h => h) hHeld (fun w hSw => ?_) ?_
                  rotate_left
                  · (try dsimp only at hSw); go_simp <;> (with_reducible rfl)
                  (try simp only [Act.put, List.setIfInBounds_toArray, List.set_cons_zero, List.set_cons_succ])
                  refine rg_in 3 rfl (by kernel_rfl) (by kernel_rfl) (by kernel_rfl) (by rfl) (v := ?_) (fun _ _ _ h => h) hHeld (fun w hSw => ?_) ?_
                  rotate_left
                  · (try dsimp only at hSw); go_simp <;> (with_reducible rfl)
                  (try simp only [Act.put, List.setIfInBounds_toArray, List.set_cons_zero, List.set_cons_succ])
                  refine rg_in 4 rfl (by kernel_rfl) (by kernel_rfl) (by kernel_rfl) (by rfl) (v := ?_) (fun _ _ _ h => h) hHeld (fun w hSw => ?_) ?_
                  rotate_left
                  · (try dsimp only at hSw); go_simp <;> (with_reducible rfl)
                  (try simp only [Act.put, List.setIfInBounds_toArray, List.set_cons_zero, List.set_cons_succ])
                  refine rg_in 5 rfl (by kernel_rfl) (by kernel_rfl) (by kernel_rfl) (by rfl) (v := ?_) (fun _ _ _ h => h) hHeld (fun w hSw => ?_) ?_
                  rotate_left
                  · (try dsimp only at hSw); go_simp <;> (with_reducible rfl)
                  (try simp only [Act.put, List.setIfInBounds_toArray, List.set_cons_zero, List.set_cons_succ])
                  refine rg_in 6 rfl (by kernel_rfl) (by kernel_rfl) (by kernel_rfl) (by rfl) (v := ?_) (fun _ _ _ h => h) hHeld (fun w hSw => ?_) ?_
                  rotate_left
                  · (try dsimp only at hSw); go_simp <;> (with_reducible rfl)
                  (try simp only [Act.put, List.setIfInBounds_toArray, List.set_cons_zero, List.set_cons_succ])
                  refine rg_in 7 rfl (by kernel_rfl) (by kernel_rfl) (by kernel_rfl) (by rfl) (v := ?_) (fun _ _ _ h => h) hHeld (fun w hSw => ?_) ?_
                  rotate_left
                  · (try dsimp only at hSw); go_simp <;> (with_reducible rfl)
                  (try simp only [Act.put, List.setIfInBounds_toArray, List.set_cons_zero, List.set_cons_succ])
                  refine rg_in 8 rfl (by kernel_rfl) (by kernel_rfl) (by kernel_rfl) (by rfl) (v := ?_) (fun _ _ _ h => h) hHeld (fun w hSw => ?_) ?_
                  rotate_left
                  · (try dsimp only at hSw); go_simp <;> (with_reducible rfl)
                  (try simp only [Act.put, List.setIfInBounds_toArray, List.set_cons_zero, List.set_cons_succ])
                  refine rg_in 9 rfl (by kernel_rfl) (by kernel_rfl) (by kernel_rfl) (by rfl) (v := ?_) (fun _ _ _ h => h) hHeld (fun w hSw => ?_) ?_
                  rotate_left
                  · (try dsimp only at hSw); go_simp <;> (with_reducible rfl)
                  (try simp only [Act.put, List.setIfInBounds_toArray, List.set_cons_zero, List.set_cons_succ])
                  refine rg_do 10 rfl (by kernel_rfl) (by rfl) (fun K hK => ?_)
                  go_simp
                  (go_at_call 36; (with_reducible refine (Hc.out _ hHeld).mono ?_); (rintro e w9 ⟨rfl, rfl⟩))
                  refine hK.out _ _ hHeld (fun hHeld => ?_)
                  clear hK K
                  (try simp only [Act.put, List.setIfInBounds_toArray, List.set_cons_zero, List.set_cons_succ])
                  refine rg_in 11 rfl (by kernel_rfl) (by kernel_rfl) (by kernel_rfl) (by rfl) (v := ?_) (fun _ _ _ h => h) hHeld (fun w hSw => ?_) ?_
                  rotate_left
                  · (try dsimp only at hSw); go_simp <;> (with_reducible rfl)
                  (try simp only [Act.put, List.setIfInBounds_toArray, List.set_cons_zero, List.set_cons_succ])
                  refine wpAnyH_done (by kernel_rfl) ?_ _
                  have hbe := hHeld
                  have hbn := hbr.trans (hbe.mono hbr.size)
                  clear hHeld Hc x1 y1 c1 c2
                  go_wp2
                  all_goals
                    go_roundw
                    case rel => exact ⟨j + 1, by omega, by go_num, HT2, hbn⟩
                    case measure => simp [intOf]; omega
                · have Hc := Lib.hid (fun W (h : Below wr.heap.size wr W) => rbytes_any p.A q.A p.n p.c q.n q.c p.l q.l _ _ W (hpo.later h).here (hqo.later h).here false (same_no he))
                  have HB := Lib.hid (show b = false by
                    rw [← HD.out]
                    apply decide_eq_false
                    intro e
                    have := congrArg (fun l : List (List UInt8) => l[j]?) e
                    simp only [List.getElem?_map, hp, hq, Option.map_some, Option.some.injEq] at this
                    exact he this)
                  clear he hp hq HT hpo hqo hc1 hc2 hA1 hA2 hbW hbx
                  go_upto_region 6 with fail
                  clear f1
                  refine wp_region_held_drew (S := fun W => Below wr.heap.size wr W) (by kernel_rfl) (below_drewN (Below.refl _ _) 1) (fun hHeld => ?_)
                  refine rg_in 0 rfl (by kernel_rfl) (by kernel_rfl) (by kernel_rfl) (by rfl) (v := ?_) (fun _ _ _ h => h) hHeld (fun w hSw => ?_) ?_
                  rotate_left
                  · (try dsimp only at hSw); go_simp <;> (with_reducible rfl)
                  (try simp only [Act.put, List.setIfInBounds_toArray, List.set_cons_zero, List.set_cons_succ])
                  refine rg_in 1 rfl (by kernel_rfl) (by kernel_rfl) (by kernel_rfl) (by rfl) (v := ?_) (fun _ _ _ h => h) hHeld (fun w hSw => ?_) ?_
                  rotate_left
                  · (try dsimp only at hSw); go_simp <;> (with_reducible rfl)
                  (try simp only [Act.put, List.setIfInBounds_toArray, List.set_cons_zero, List.set_cons_succ])
                  refine rg_in 2 rfl (by kernel_rfl) (by kernel_rfl) (by kernel_rfl) (by rfl) (v := ?_) (fun _ _ _ h => h) hHeld (fun w hSw => ?_) ?_
                  rotate_left
                  · (try dsimp only at hSw); go_simp <;> (with_reducible rfl)
                  (try simp only [Act.put, List.setIfInBounds_toArray, List.set_cons_zero, List.set_cons_succ])
                  refine rg_in 3 rfl (by kernel_rfl) (by kernel_rfl) (by kernel_rfl) (by rfl) (v := ?_) (fun _ _ _ h => h) hHeld (fun w hSw => ?_) ?_
                  rotate_left
                  · (try dsimp only at hSw); go_simp <;> (with_reducible rfl)
                  (try simp only [Act.put, List.setIfInBounds_toArray, List.set_cons_zero, List.set_cons_succ])
                  refine rg_in 4 rfl (by kernel_rfl) (by kernel_rfl) (by kernel_rfl) (by rfl) (v := ?_) (fun _ _ _ h => h) hHeld (fun w hSw => ?_) ?_
                  rotate_left
                  · (try dsimp only at hSw); go_simp <;> (with_reducible rfl)
                  (try simp only [Act.put, List.setIfInBounds_toArray, List.set_cons_zero, List.set_cons_succ])
                  refine rg_in 5 rfl (by kernel_rfl) (by kernel_rfl) (by kernel_rfl) (by rfl) (v := ?_) (fun _ _ _ h => h) hHeld (fun w hSw => ?_) ?_
                  rotate_left
                  · (try dsimp only at hSw); go_simp <;> (with_reducible rfl)
                  (try simp only [Act.put, List.setIfInBounds_toArray, List.set_cons_zero, List.set_cons_succ])
                  refine rg_in 6 rfl (by kernel_rfl) (by kernel_rfl) (by kernel_rfl) (by rfl) (v := ?_) (fun _ _ _ h => h) hHeld (fun w hSw => ?_) ?_
                  rotate_left
                  · (try dsimp only at hSw); go_simp <;> (with_reducible rfl)
                  (try simp only [Act.put, List.setIfInBounds_toArray, List.set_cons_zero, List.set_cons_succ])
                  refine rg_in 7 rfl (by kernel_rfl) (by kernel_rfl) (by kernel_rfl) (by rfl) (v := ?_) (fun _ _ _ h => h) hHeld (fun w hSw => ?_) ?_
                  rotate_left
                  · (try dsimp only at hSw); go_simp <;> (with_reducible rfl)
                  (try simp only [Act.put, List.setIfInBounds_toArray, List.set_cons_zero, List.set_cons_succ])
                  refine rg_in 8 rfl (by kernel_rfl) (by kernel_rfl) (by kernel_rfl) (by rfl) (v := ?_) (fun _ _ _ h => h) hHeld (fun w hSw => ?_) ?_
                  rotate_left
                  · (try dsimp only at hSw); go_simp <;> (with_reducible rfl)
                  (try simp only [Act.put, List.setIfInBounds_toArray, List.set_cons_zero, List.set_cons_succ])
                  refine rg_in 9 rfl (by kernel_rfl) (by kernel_rfl) (by kernel_rfl) (by rfl) (v := ?_) (fun _ _ _ h => h) hHeld (fun w hSw => ?_) ?_
                  rotate_left
                  · (try dsimp only at hSw); go_simp <;> (with_reducible rfl)
                  (try simp only [Act.put, List.setIfInBounds_toArray, List.set_cons_zero, List.set_cons_succ])
                  refine rg_do 10 rfl (by kernel_rfl) (by rfl) (fun K hK => ?_)
                  go_simp
                  (go_at_call 36; (with_reducible refine (Hc.out _ hHeld).mono ?_); (rintro e w9 ⟨rfl, rfl⟩))
                  refine hK.out _ _ hHeld (fun hHeld => ?_)
                  clear hK K
                  (try simp only [Act.put, List.setIfInBounds_toArray, List.set_cons_zero, List.set_cons_succ])
                  refine rg_in 11 rfl (by kernel_rfl) (by kernel_rfl) (by kernel_rfl) (by rfl) (v := ?_) (fun _ _ _ h => h) hHeld (fun w hSw => ?_) ?_
                  rotate_left
                  · (try dsimp only at hSw); go_simp <;> (with_reducible rfl)
                  (try simp only [Act.put, List.setIfInBounds_toArray, List.set_cons_zero, List.set_cons_succ])
                  refine wpAnyH_done (by kernel_rfl) ?_ _
                  have hbe := hHeld
                  have hbn := hbr.trans (hbe.mono hbr.size)
                  clear hHeld Hc x1 y1 c1 c2
                  go_wp2
                  go_ret
                  exact ⟨by rw [HB.out]; rfl, hb1.trans (hbn.mono hb1.size)⟩
              · obtain rfl : j = X.ln := by omega
                have HB := Lib.hid (show b = true by
                  rw [← HD.out]
                  apply decide_eq_true
                  have h := HT.out
                  rw [List.take_of_length_le (by rw [Hl1.out]; exact Nat.le_refl _), List.take_of_length_le (by rw [Hl2.out, HN.out]; exact Nat.le_refl _)] at h
                  exact h)
                clear HT hbx
                go_wp2
                go_ret
                exact ⟨by rw [HB.out]; rfl, hb1.trans (hbr.mono hb1.size)⟩
          · have hc := rbytes_any X.F.A Y.F.A X.F.n X.F.c Y.F.n Y.F.c X.F.l Y.F.l _ _ _ hXl.firm.here hYl.firm.here false (same_no e4)
            have HB := Lib.hid (show b = false by
              rw [← Hb.out]
              unfold sameS
              rw [show (sameB X.s.firm Y.s.firm) = false from same_no e4]
              simp)
            clear e1 e2 e3 e4 e5 hXl hYl Hb
            go_wp2_with fail
            refine hc.mono ?_
            rintro e W4 ⟨rfl, rfl⟩
            clear hc
            go_wp2
            all_goals
              go_ret
              exact ⟨by rw [HB.out]; rfl, hb1⟩
        · have e5' : ((X.ln : Int) != (Y.ln : Int)) = true := by rw [bne_iff_ne]; omega
          have hl : ¬ X.s.loose = Y.s.loose := by
            intro e
            have h1 := (HX.out _ hb1).len
            have h2 := (HY.out _ hb1).len
            have h3 := congrArg List.length e
            have h4 : (X.L.map (·.l)).length = (Y.L.map (·.l)).length := h3
            rw [List.length_map, List.length_map] at h4
            omega
          have HB := Lib.hid (show b = false by
            rw [← Hb.out]
            unfold sameS
            rw [show (decide (X.s.loose = Y.s.loose)) = false from decide_eq_false hl]
            simp)
          clear e1 e2 e3 e5 hl Hb
          go_wp2
          all_goals
            go_ret
            exact ⟨by rw [HB.out]; rfl, hb1⟩
      · have e3' : (X.off == Y.off) = false := beq_eq_false_iff_ne.2 e3
        have HB := Lib.hid (show b = false by
          rw [← Hb.out]
          unfold sameS
          rw [show (X.s.off == Y.s.off) = false from beq_eq_false_iff_ne.2 e3]
          simp)
        clear e1 e2 e3 Hb
        go_wp2
        all_goals
          go_ret
          exact ⟨by rw [HB.out]; rfl, hb1⟩
    · have e2' : (X.fault != Y.fault) = true := by rw [bne, beq_eq_false_iff_ne.2 e2]; rfl
      have HB := Lib.hid (show b = false by
        rw [← Hb.out]
        unfold sameS
        rw [show (X.s.fault == Y.s.fault) = false from beq_eq_false_iff_ne.2 e2]
        simp)
      clear e1 e2 Hb
      go_wp2
      all_goals
        go_ret
        exact ⟨by rw [HB.out]; rfl, hb1⟩
  · have e1' : (X.fuse != Y.fuse) = true := by rw [bne, beq_eq_false_iff_ne.2 e1]; rfl
    have HB := Lib.hid (show b = false by
      rw [← Hb.out]
      unfold sameS
      rw [show (X.s.fuse == Y.s.fuse) = false from beq_eq_false_iff_ne.2 e1]
      simp)
    clear e1 Hb
    go_wp2
    all_goals
      go_ret
      exact ⟨by rw [HB.out]; rfl, hb1⟩
end Go.Proofs.YtghmehfmchadoaaDoor
/-
  Layer 10: the operations on a file that may not be: the file as it was, and 200.
-/
namespace Go.Proofs.YtghmehfmchadoaaDoor
open Go.RowKit
set_option linter.unusedVariables false

set_option maxRecDepth 20000 in
set_option maxHeartbeats 2000000 in
theorem appendF_bad (X : FileT) (p : PcT) (Zp : Nat → Prop) (B : Nat) (w : World) (hL : LieF w B X) (hB : B ≤ w.heap.size) (hN : ∀ p ∈ X.Q, p.n ≤ 1048576) (hr : X.right = false) :
    Calls Tryd.prog 18 #[X.agg, p.val] w (OpP X Zp (X.s, 200) w) := by
  have hb1 := bel_alloc (bel_alloc (bel_alloc (Below.refl w.heap.size w) (.cells #[.slice X.F.A X.F.n X.F.c, .slice X.lA X.ln X.lc, .int .i64 X.fuse, .int .i64 X.fault, .bool X.off] 25)) (.cells #[.slice p.A p.n p.c] 22)) (.cells #[.slice none 0 0, .slice none 0 0, .int .i64 0, .int .i64 0, .bool false] 25)
  have HX := (FBox.new w X 25).later (bel_alloc (bel_alloc (Below.refl _ _) (.cells #[.slice p.A p.n p.c] 22)) (.cells #[.slice none 0 0, .slice none 0 0, .int .i64 0, .int .i64 0, .bool false] 25))
  have hch := checkF_any X B _ (hL.later (hb1.mono hB)) (Nat.le_trans hB hb1.size) hN
  rw [hr] at hch
  have HV := FVar.new ((w.alloc (.cells #[.slice X.F.A X.F.n X.F.c, .slice X.lA X.ln X.lc, .int .i64 X.fuse, .int .i64 X.fault, .bool X.off] 25)).alloc (.cells #[.slice p.A p.n p.c] 22)) (.slice none 0 0) (.slice none 0 0) (.int .i64 0) (.int .i64 0) (.bool false) 25
  rw [World.size_alloc, World.size_alloc] at HV
  simp only [FileT.agg, PcT.val] at hch ⊢
  obtain ⟨f0, f1, f2, f3, f4⟩ := HX
  clear hN hr
  go_enter Tryd.func18, Tryd.ntmps18
  go_wp2_with fail
  generalize (((w.alloc (.cells #[.slice X.F.A X.F.n X.F.c, .slice X.lA X.ln X.lc, .int .i64 X.fuse, .int .i64 X.fault, .bool X.off] 25)).alloc (.cells #[.slice p.A p.n p.c] 22)).alloc (.cells #[.slice none 0 0, .slice none 0 0, .int .i64 0, .int .i64 0, .bool false] 25)) = W1 at *
  refine hch.mono ?_
  rintro e W2 ⟨rfl, hb2⟩
  have hb3 := bel_next hb1 hb2
  have f0' := kept_later hb2 f0
  have f1' := kept_later hb2 f1
  have f2' := kept_later hb2 f2
  have f3' := kept_later hb2 f3
  have f4' := kept_later hb2 f4
  obtain ⟨⟨j0, j1, j2, j3, j4⟩, k0, k1, k2, k3, k4⟩ := HV.later hb2
  have hbe := fbelow_set5 (a := .slice X.F.A X.F.n X.F.c) (b := .slice X.lA X.ln X.lc) (c := .int .i64 X.fuse) (d := .int .i64 X.fault) (e := .bool X.off) hb3 (show w.heap.size ≤ w.heap.size + 1 + 1 by omega)
  have hLe := (hL.later (hbe.mono hB)).more (Nat.le_trans hB hbe.size)
  clear hch f0 f1 f2 f3 f4 HV hb1 hb2 hL
  go_wp2
  (try rw [Exit.noGoto_ret])
  refine bodyPost_ret (v := .tuple #[.agg #[.slice X.F.A X.F.n X.F.c, .slice X.lA X.ln X.lc, .int .i64 X.fuse, .int .i64 X.fault, .bool X.off], .int .i64 200]) ?_ rfl ⟨X, rfl, rfl, hLe, hbe, fun _ _ h _ => h⟩
  simp [results, Tryd.results18, go_sem, *]
end Go.Proofs.YtghmehfmchadoaaDoor
/-
  Layer 10: the reference's Asked.
-/
namespace Go.Proofs.YtghmehfmchadoaaDoor
open Go.RowKit
set_option linter.unusedVariables false

theorem lie_put {w w' : World} {B : Nat} {X : FileT} (hL : LieF w B X) (hb : Below w.heap.size w w') (hB : B ≤ w.heap.size) {fu fa : Int} {of : Bool} (h1 : (Lit.int .i64 fu).wf = true) (h2 : (Lit.int .i64 fa).wf = true) :
    LieF w' w'.heap.size ⟨X.F, X.lA, X.ln, X.lc, X.L, fu, fa, of⟩ := by
  have h := (hL.later (hb.mono hB)).more (Nat.le_trans hB hb.size)
  exact ⟨h.firm, h.row, h.loose, h.nil, h.fits, h.most, h1, h2⟩
theorem wf_down {n : Int} (h : (Lit.int .i64 n).wf = true) (h0 : 0 < n) : (Lit.int .i64 (n - 1)).wf = true := by
  have := wf_i64 h
  have e : (decide (IntKind.i64.min ≤ n - 1) && decide (n - 1 ≤ IntKind.i64.max)) = true := by
    rw [Bool.and_eq_true, decide_eq_true_iff, decide_eq_true_iff]
    have h1 : IntKind.i64.min = -9223372036854775808 := rfl
    have h2 : IntKind.i64.max = 9223372036854775807 := rfl
    omega
  exact e
end Go.Proofs.YtghmehfmchadoaaDoor
/-
  Layer 10: the reference's Sync.
-/
namespace Go.Proofs.YtghmehfmchadoaaDoor
open Go.RowKit
set_option linter.unusedVariables false

theorem FVar.other5 {W : World} {g k : Nat} {a b c d e a' b' c' d' e' : Value} (hk : k ≠ g) (h : FVar W k a b c d e) : FVar (set5F W g a' b' c' d' e') k a b c d e :=
  FVar.other e' hk (FVar.other d' hk (FVar.other c' hk (FVar.other b' hk (FVar.other a' hk h))))
end Go.Proofs.YtghmehfmchadoaaDoor
/-
  Layer 10: the reference's Append.
-/
namespace Go.Proofs.YtghmehfmchadoaaDoor
open Go.RowKit
set_option linter.unusedVariables false

theorem slice_one (A : Option Addr) (n c : Nat) : ∀ u ∈ (#[.slice A n c] : Array Value).toList, u.oneCell' = true := by
  intro u hu
  obtain rfl : u = .slice A n c := by simpa using hu
  rfl
theorem vals_one (L : List PcT) : ∀ u ∈ L.map PcT.val, u.oneCell' = true := by
  intro u hu
  obtain ⟨p, _, rfl⟩ := List.mem_map.1 hu
  rfl
/-- A file behind a piece of its own at the end of a row of its own. -/
theorem grow_lie {W3 w7 w9 w11 : World} {Y : FileT} {A11 A9 A7 : Option Addr} {c11 c9 c7 pn n : Nat} {pl : List UInt8} {t : TypeId} (hL : LieF W3 W3.heap.size Y) (h7 : Below W3.heap.size W3 w7) (h9 : Below w7.heap.size w7 w9)
    (o9 : w9.ownsRow w7.heap.size 5 1 (.slice A9 pn c9) pn (pl.map bv)) (o10 : (w9.alloc (.cells #[.slice A9 pn c9] t)).ownsRow W3.heap.size 22 1 (.slice A7 Y.ln c7) Y.ln (Y.L.map PcT.val))
    (g11 : (w9.alloc (.cells #[.slice A9 pn c9] t)).grownBy w11 (Value.slice A7 Y.ln c7).ownBlock) (b11 : Below W3.heap.size (w9.alloc (.cells #[.slice A9 pn c9] t)) w11)
    (o11 : w11.ownsRow W3.heap.size 22 1 (.slice A11 (Y.ln + 1) c11) (Y.ln + 1) (Y.L.map PcT.val ++ (#[.slice A9 pn c9] : Array Value).toList)) (hn : n < W3.heap.size) (ha : AwayF Y n) (u : Value) :
    LieF (w11.setCell ⟨n, 1, none⟩ u) (w11.setCell ⟨n, 1, none⟩ u).heap.size ⟨Y.F, A11, Y.ln + 1, c11, Y.L ++ [⟨A9, pn, c9, pl⟩], Y.fuse, Y.fault, Y.off⟩ ∧
      ∀ g, g < W3.heap.size → AwayF Y g → AwayF ⟨Y.F, A11, Y.ln + 1, c11, Y.L ++ [⟨A9, pn, c9, pl⟩], Y.fuse, Y.fault, Y.off⟩ g := by
  have hs7 := h7.size
  have hbl := bel_alloc (Below.refl w9.heap.size w9) (.cells #[.slice A9 pn c9] t)
  have o9' := own_later o9 hbl
  have hne : (Value.slice A9 pn c9).ownBlock = none ∨ (Value.slice A9 pn c9).ownBlock ≠ (Value.slice A7 Y.ln c7).ownBlock := by
    rcases o9'.2 with ⟨e, _⟩ | ⟨g, cap, cur, e, _, hg, _⟩
    · rw [e]; exact .inl rfl
    · rw [e]
      exact .inr (own_blk_ne o10 hg (by decide))
  have p9 := o9'.kept g11 hne
  have q9 := ownsRow_setCell_below p9 (show (⟨n, 1, none⟩ : Addr).block < _ by show n < _; omega) u
  have q11 := ownsRow_setCell_below o11 (show (⟨n, 1, none⟩ : Addr).block < _ by show n < _; exact hn) u
  have hb : Below W3.heap.size W3 w11 := (bel_alloc (h7.trans (h9.mono hs7)) (.cells #[.slice A9 pn c9] t)).trans b11
  have hL2 := ((hL.later hb).more hb.size).setAway ha 1 u
  obtain ⟨r1, r2, r3⟩ := own_facts q11
  obtain ⟨s1, s2, s3⟩ := own_facts q9
  have hsz : (w11.setCell ⟨n, 1, none⟩ u).heap.size = w11.heap.size := size_set _ _ _
  refine ⟨⟨?_, ?_, ?_, r1, r2, r3, hL.fuse, hL.fault⟩, fun g hg h => ⟨h.firm, own_away o11 hg, ?_⟩⟩
  · rw [hsz]; exact hL2.firm
  · have h := Shows.own q11
    show Shows _ _ 1 A11 (Y.ln + 1) ((Y.L ++ [(⟨A9, pn, c9, pl⟩ : PcT)]).map PcT.val)
    rw [List.map_append]
    exact h
  · intro q hq
    rcases List.mem_append.1 hq with h | h
    · rw [hsz]; exact hL2.loose q h
    · obtain rfl := List.mem_singleton.1 h
      exact ⟨Bytes.own q9, s1, s2, s3⟩
  · intro q hq
    rcases List.mem_append.1 hq with h' | h'
    · exact h.loose q h'
    · obtain rfl := List.mem_singleton.1 h'
      exact own_away p9 (by omega)
end Go.Proofs.YtghmehfmchadoaaDoor
/-
  Layer 10: own.
-/
namespace Go.Proofs.YtghmehfmchadoaaDoor
open Go.RowKit
set_option linter.unusedVariables false

/-- Rows of one's own, as made. -/
def OwnR (W : World) (D : Nat) (L : List PcT) : Prop := ∀ p ∈ L, W.ownsRow D 5 1 (.slice p.A p.n p.c) p.n (p.l.map bv)
theorem OwnR.later {W W' : World} {D : Nat} {L : List PcT} (h : OwnR W D L) (hb : Below W.heap.size W W') : OwnR W' D L := fun p hp => own_later (h p hp) hb
theorem OwnR.base {W : World} {D D' : Nat} {L : List PcT} (h : OwnR W D L) (hb : D' ≤ D) : OwnR W D' L := fun p hp => own_base (h p hp) hb
theorem OwnR.snoc {W : World} {D : Nat} {L : List PcT} {p : PcT} (h : OwnR W D L) (hp : W.ownsRow D 5 1 (.slice p.A p.n p.c) p.n (p.l.map bv)) : OwnR W D (L ++ [p]) := fun q hq => by
  rcases List.mem_append.1 hq with h' | h'
  · exact h q h'
  · obtain rfl := List.mem_singleton.1 h'
    exact hp
theorem OwnR.grown {W W' : World} {D E n : Nat} {L : List PcT} {v : Value} {xs : List Value} (h : OwnR W D L) (ho : W.ownsRow E 22 1 v n xs) (hg : W.grownBy W' v.ownBlock) : OwnR W' D L := fun p hp => by
  have h2 := h p hp
  refine h2.kept hg ?_
  rcases h2.2 with ⟨e, _⟩ | ⟨g, cap, cur, e, _, hh, _⟩
  · rw [e]; exact .inl rfl
  · rw [e]
    exact .inr (own_blk_ne ho hh (by decide))
theorem OwnR.setBelow {W : World} {D : Nat} {L : List PcT} (h : OwnR W D L) {a : Addr} (ha : a.block < D) (u : Value) : OwnR (W.setCell a u) D L := fun p hp => ownsRow_setCell_below (h p hp) ha u
theorem own_lie {W : World} {D c n : Nat} {A : Option Addr} {L : List PcT} {p : PcT} {fu fa : Int} {of : Bool} (hp : W.ownsRow D 5 1 (.slice p.A p.n p.c) p.n (p.l.map bv)) (hr : W.ownsRow D 22 1 (.slice A n c) n (L.map PcT.val)) (hL : OwnR W D L) (hu : (Lit.int .i64 fu).wf = true) (ha : (Lit.int .i64 fa).wf = true) :
    LieF W W.heap.size ⟨p, A, n, c, L, fu, fa, of⟩ ∧ ∀ g, g < D → AwayF ⟨p, A, n, c, L, fu, fa, of⟩ g := by
  obtain ⟨r1, r2, r3⟩ := own_facts hr
  obtain ⟨s1, s2, s3⟩ := own_facts hp
  refine ⟨⟨⟨Bytes.own hp, s1, s2, s3⟩, Shows.own hr, fun q hq => ?_, r1, r2, r3, hu, ha⟩, fun g hg => ⟨own_away hp hg, own_away hr hg, fun q hq => own_away (hL q hq) hg⟩⟩
  obtain ⟨q1, q2, q3⟩ := own_facts (hL q hq)
  exact ⟨Bytes.own (hL q hq), q1, q2, q3⟩
end Go.Proofs.YtghmehfmchadoaaDoor
/-
  Layer 10, plain: a loss of power byte by byte, as the document walks it.
-/
namespace Go.Proofs.YtghmehfmchadoaaDoor
open Go.RowKit
set_option linter.unusedVariables false

section
variable (l : List UInt8) (i : Nat) (keep : List Bool) (tear cut : Int)
theorem mask_get {k : Nat} {x : UInt8} (hk : l[k]? = some x) : (maskP l i keep tear cut)[k]? = some (if k < survN l i keep tear cut then x else 0) := by
  have hkl := (List.getElem?_eq_some_iff.1 hk).1
  have hs := survN_le l i keep tear cut
  unfold maskP zerosU
  by_cases h : k < survN l i keep tear cut
  · rw [List.getElem?_append_left (by rw [List.length_take]; omega), List.getElem?_take, if_pos h, if_pos h, hk]
  · rw [List.getElem?_append_right (by rw [List.length_take]; omega), List.length_take, List.getElem?_replicate, if_pos (by omega), if_neg h]
theorem mask_yes {k : Nat} {x : UInt8} (hk : l[k]? = some x) (h : k < survN l i keep tear cut) : (maskP l i keep tear cut).take (k + 1) = (maskP l i keep tear cut).take k ++ [x] := by
  rw [List.take_add_one, mask_get l i keep tear cut hk, if_pos h]
  rfl
theorem mask_no {k : Nat} {x : UInt8} (hk : l[k]? = some x) (h : ¬ k < survN l i keep tear cut) : (maskP l i keep tear cut).take (k + 1) = (maskP l i keep tear cut).take k ++ [0] := by
  rw [List.take_add_one, mask_get l i keep tear cut hk, if_neg h]
  rfl
theorem mask_all : (maskP l i keep tear cut).take l.length = maskP l i keep tear cut := List.take_of_length_le (by rw [mask_len]; exact Nat.le_refl _)
end
/-- The end behind so many bytes of a piece of which so many stay. -/
def endK (s a e k : Nat) : Nat := if 0 < min k s then a + min k s else e
theorem endK_0 (s a e : Nat) : endK s a e 0 = e := by unfold endK; rw [Nat.zero_min]; rfl
theorem endK_yes {s a e k : Nat} (h : k < s) : endK s a e (k + 1) = a + k + 1 := by unfold endK; rw [if_pos (by omega)]; omega
theorem endK_no {s a e k : Nat} (h : ¬ k < s) : endK s a e (k + 1) = endK s a e k := by
  unfold endK
  rw [show min (k + 1) s = min k s by omega]
theorem endK_all {s a e n : Nat} (h : s ≤ n) : endK s a e n = if 0 < s then a + s else e := by unfold endK; rw [Nat.min_eq_right h]
theorem endK_le {s a e k : Nat} (h : e ≤ a) : endK s a e k ≤ a + k := by unfold endK; split <;> omega
theorem set_mid {α : Type} (P R : List α) (x v : α) : (P ++ x :: R).set P.length v = P ++ v :: R := by
  induction P with
  | nil => rfl
  | cons p P ih => rw [List.cons_append, List.length_cons, List.set_cons_succ, ih, List.cons_append]
theorem all_step {w : World} {B : Nat} {X : FileT} (hL : LieF w B X) {i : Nat} {p : PcT} (hp : X.L[i]? = some p) : X.all.drop (X.F.n + sumN (X.L.take i)) = p.l ++ X.all.drop (X.F.n + sumN (X.L.take (i + 1))) := by
  have e1 : (joinP (X.L.take i)).length = sumN (X.L.take i) := sumN_len (w := w) (B := B) (fun q hq => hL.loose q (List.mem_of_mem_take hq))
  have e2 : (joinP (X.L.take (i + 1))).length = sumN (X.L.take (i + 1)) := sumN_len (w := w) (B := B) (fun q hq => hL.loose q (List.mem_of_mem_take hq))
  have hj : ∀ n, joinP X.L = joinP (X.L.take n) ++ joinP (X.L.drop n) := fun n => by rw [← joinP_append, List.take_append_drop]
  have d : ∀ n, (joinP (X.L.take n)).length = sumN (X.L.take n) → X.all.drop (X.F.n + sumN (X.L.take n)) = joinP (X.L.drop n) := fun n hn => by
    unfold FileT.all
    rw [hj n, ← List.append_assoc]
    exact List.drop_left' (by rw [List.length_append, hL.firm.len, hn])
  rw [d i e1, d (i + 1) e2]
  have h3 : X.L.drop i = p :: X.L.drop (i + 1) := by
    obtain ⟨h, he⟩ := List.getElem?_eq_some_iff.1 hp
    rw [List.drop_eq_getElem_cons h, he]
  rw [h3, joinP_cons]
theorem all_start {w : World} {B : Nat} {X : FileT} (hL : LieF w B X) : X.all = X.F.l ++ X.all.drop (X.F.n + sumN (X.L.take 0)) := by
  have h : X.all.drop (X.F.n + sumN (X.L.take 0)) = joinP X.L := by
    unfold FileT.all
    rw [List.take_zero]
    exact List.drop_left' (by rw [hL.firm.len]; rfl)
  rw [h]
  rfl
theorem mask_step {keep : List Bool} {tear cut : Int} {L : List PcT} {i : Nat} {p : PcT} {M R : List UInt8} (hp : L[i]? = some p) (h : maskGo keep tear cut ((L.drop i).map (·.l)) i M = R) : maskGo keep tear cut ((L.drop (i + 1)).map (·.l)) (i + 1) (M ++ maskP p.l i keep tear cut) = R := by
  obtain ⟨hi, he⟩ := List.getElem?_eq_some_iff.1 hp
  rw [List.drop_eq_getElem_cons hi, he, List.map_cons] at h
  exact h
theorem end_step {keep : List Bool} {tear cut : Int} {L : List PcT} {i a e E : Nat} {p : PcT} (hp : L[i]? = some p) (hl : p.l.length = p.n) (h : endGo keep tear cut ((L.drop i).map (·.l)) i a e = E) : endGo keep tear cut ((L.drop (i + 1)).map (·.l)) (i + 1) (a + p.n) (endK (survN p.l i keep tear cut) a e p.n) = E := by
  obtain ⟨hi, he⟩ := List.getElem?_eq_some_iff.1 hp
  rw [List.drop_eq_getElem_cons hi, he, List.map_cons] at h
  have h2 : endGo keep tear cut ((L.drop (i + 1)).map (·.l)) (i + 1) (a + p.l.length) (if 0 < survN p.l i keep tear cut then a + survN p.l i keep tear cut else e) = E := h
  rw [endK_all (by rw [← hl]; exact survN_le _ _ _ _ _), ← hl]
  exact h2
/-- What both come to. -/
theorem crash_doc (X : FileT) (keep : List Bool) (tear cut : Int) : (X.s.crash keep tear cut).firm = (maskGo keep tear cut ((X.L.drop 0).map (·.l)) 0 X.F.l).take (endGo keep tear cut ((X.L.drop 0).map (·.l)) 0 X.F.l.length X.F.l.length) :=
  crash_is keep tear cut X.s.loose 0 X.F.l.length X.F.l.length X.F.l X.F.l rfl ⟨rfl, by rw [Nat.sub_self]; unfold zerosU; rw [List.replicate_zero, List.append_nil], Nat.le_refl _⟩
end Go.Proofs.YtghmehfmchadoaaDoor
/-
  Layer 10: a deed done and what it comes to, of any file.
-/
namespace Go.Proofs.YtghmehfmchadoaaDoor
open Go.RowKit
set_option linter.unusedVariables false

/-- What a deed comes to, of a file that may be or not. -/
def outB (X : FileT) (x : DeedT) : FileS × Int := if X.right = true then doS X.s X.long x else (X.s, 200)
end Go.Proofs.YtghmehfmchadoaaDoor
/-
  Layer 10, plain: what a deed comes to hangs on what the file is, not on where it lies.
-/
namespace Go.Proofs.YtghmehfmchadoaaDoor
open Go.RowKit
set_option linter.unusedVariables false

theorem outB_same {w : World} {B D : Nat} {X Y : FileT} (hX : LieF w B X) (hY : LieF w D Y) (h : Y.s = X.s) (x : DeedT) : outB Y x = outB X x := by
  have hr : Y.right = X.right := by rw [right_s hX, right_s hY, h]
  unfold outB
  rw [hr, h]
  by_cases hx : X.right = true
  · rw [if_pos hx, if_pos hx, long_s hX hx, long_s hY (hr.trans hx), h]
  · rw [if_neg hx, if_neg hx]
/-- Its rows are short. -/
def Short (X : FileT) : Prop := (∀ p ∈ X.Q, p.n ≤ 1048576) ∧ X.ln ≤ 1048576
theorem short_right {w : World} {B : Nat} {X : FileT} (h : LieF w B X) (hr : X.right = true) : Short X := by
  obtain ⟨h1, _, h3⟩ := right_rows h hr
  exact ⟨h1, by omega⟩
/-- A deed that was no error leaves a file that may be. -/
theorem outB_right {w w' : World} {B D N : Nat} {X Y : FileT} {x : DeedT} (hX : LieF w B X) (hx : x.Ok w B N) (hY : LieF w' D Y) (h : Y.s = (outB X x).1) (hk : (outB X x).2 ≠ 200) : Y.right = true := by
  by_cases hr : X.right = true
  · rw [show outB X x = doS X.s X.long x from if_pos hr, long_s hX hr] at h
    rw [right_s hY, h]
    exact doS_right (by rw [← right_s hX]; exact hr) x hx.bytes.len
  · rw [show outB X x = (X.s, 200) from if_neg hr] at hk
    exact absurd rfl hk
theorem two_done' {w V : World} {g h : Nat} {Y Z : FileT} {a b c d e a' b' c' d' e' : Value} (hX : FVar V g a b c d e) (hT : FVar V h a' b' c' d' e') (hY : LieF V V.heap.size Y) (hZ : LieF V V.heap.size Z) (hYg : AwayF Y g) (hYh : AwayF Y h) (hZg : AwayF Z g) (hZh : AwayF Z h) (hne : g ≠ h)
    (hb : Below w.heap.size w V) (hg : w.heap.size ≤ g) (hh : w.heap.size ≤ h) (hgs : g < V.heap.size) (hhs : h < V.heap.size) :
    FAt (set5F (set5F V g (.slice Y.F.A Y.F.n Y.F.c) (.slice Y.lA Y.ln Y.lc) (.int .i64 Y.fuse) (.int .i64 Y.fault) (.bool Y.off)) h (.slice Z.F.A Z.F.n Z.F.c) (.slice Z.lA Z.ln Z.lc) (.int .i64 Z.fuse) (.int .i64 Z.fault) (.bool Z.off)) g Y ∧
    FAt (set5F (set5F V g (.slice Y.F.A Y.F.n Y.F.c) (.slice Y.lA Y.ln Y.lc) (.int .i64 Y.fuse) (.int .i64 Y.fault) (.bool Y.off)) h (.slice Z.F.A Z.F.n Z.F.c) (.slice Z.lA Z.ln Z.lc) (.int .i64 Z.fuse) (.int .i64 Z.fault) (.bool Z.off)) h Z ∧
    Below w.heap.size w (set5F (set5F V g (.slice Y.F.A Y.F.n Y.F.c) (.slice Y.lA Y.ln Y.lc) (.int .i64 Y.fuse) (.int .i64 Y.fault) (.bool Y.off)) h (.slice Z.F.A Z.F.n Z.F.c) (.slice Z.lA Z.ln Z.lc) (.int .i64 Z.fuse) (.int .i64 Z.fault) (.bool Z.off)) ∧
    g < (set5F (set5F V g (.slice Y.F.A Y.F.n Y.F.c) (.slice Y.lA Y.ln Y.lc) (.int .i64 Y.fuse) (.int .i64 Y.fault) (.bool Y.off)) h (.slice Z.F.A Z.F.n Z.F.c) (.slice Z.lA Z.ln Z.lc) (.int .i64 Z.fuse) (.int .i64 Z.fault) (.bool Z.off)).heap.size ∧
    h < (set5F (set5F V g (.slice Y.F.A Y.F.n Y.F.c) (.slice Y.lA Y.ln Y.lc) (.int .i64 Y.fuse) (.int .i64 Y.fault) (.bool Y.off)) h (.slice Z.F.A Z.F.n Z.F.c) (.slice Z.lA Z.ln Z.lc) (.int .i64 Z.fuse) (.int .i64 Z.fault) (.bool Z.off)).heap.size := by
  refine ⟨⟨FVar.other5 hne hX.set5, lie_res (lie_res hY hYg) hYh, hYg⟩, ⟨(FVar.other5 (Ne.symm hne) hT).set5, lie_res (lie_res hZ hZg) hZh, hZh⟩, ?_, by rw [size_set5, size_set5]; exact hgs, by rw [size_set5, size_set5]; exact hhs⟩
  exact fbelow_set5 (fbelow_set5 hb hg) hh
theorem file_info : ∃ i, Tryd.prog.info? 25 = some i ∧ i.zero = some (.agg #[.slice none 0 0, .slice none 0 0, .int .i64 0, .int .i64 0, .bool false]) := ⟨Tryd.t25, by kernel_rfl, by kernel_rfl⟩
theorem fvar_blk {W : World} {g : Nat} {a b c d e : Value} {t : TypeId} (h : W.heap[g]? = some (.cells #[a, b, c, d, e] t)) : FVar W g a b c d e :=
  ⟨⟨by simp [World.cell?, h], by simp [World.cell?, h], by simp [World.cell?, h], by simp [World.cell?, h], by simp [World.cell?, h]⟩, frozen_of_row W g 0 _ t h, frozen_of_row W g 1 _ t h, frozen_of_row W g 2 _ t h, frozen_of_row W g 3 _ t h, frozen_of_row W g 4 _ t h⟩
/-- All blocks but two are as they were. -/
structure STwo (g h : Nat) (w W : World) : Prop where
  s : w.heap.size ≤ W.heap.size
  b : ∀ k, k < w.heap.size → k ≠ g → k ≠ h → W.heap[k]? = w.heap[k]?
theorem STwo.drew (g h : Nat) (w : World) : STwo g h w (w.drewN 1) := ⟨Nat.le_refl _, fun _ _ _ _ => rfl⟩
theorem STwo.next {g h : Nat} {w W W' : World} (hs : STwo g h w W) (hb : Below W.heap.size W W') : STwo g h w W' := ⟨Nat.le_trans hs.s hb.size, fun k hk h1 h2 => (hb.block k (Nat.lt_of_lt_of_le hk hs.s)).trans (hs.b k hk h1 h2)⟩
theorem STwo.set {g h k : Nat} {w W : World} {a b c d e : Value} (hs : STwo g h w W) (hk : k = g ∨ k = h) : STwo g h w (set5F W k a b c d e) := by
  refine ⟨by rw [size_set5]; exact hs.s, fun j hj h1 h2 => ?_⟩
  have hne : j ≠ k := by rcases hk with rfl | rfl <;> assumption
  unfold set5F
  rw [Below.heap_setCell _ _ _ _ hne, Below.heap_setCell _ _ _ _ hne, Below.heap_setCell _ _ _ _ hne, Below.heap_setCell _ _ _ _ hne, Below.heap_setCell _ _ _ _ hne]
  exact hs.b j hj h1 h2
theorem STwo.cell {g h k i : Nat} {w W : World} {v : Value} (hs : STwo g h w W) (hc : w.cell? ⟨k, i, none⟩ = some v) (h1 : k ≠ g) (h2 : k ≠ h) : W.cell? ⟨k, i, none⟩ = some v :=
  (World.cell?_of_block (hs.b k (World.block_lt_of_cell? w _ hc) h1 h2)).trans hc
end Go.Proofs.YtghmehfmchadoaaDoor
