import Derived.Test.YthoenmggjbojoaaGai
/-
  Layer 10: the reference's Same.
-/
namespace Go.Proofs.Ythoenmggjbojoaa
open Go.RowKit
set_option linter.unusedVariables false

set_option maxRecDepth 20000 in
set_option maxHeartbeats 1000000 in
theorem rbytes_any (A1 A2 : Option Addr) (n1 c1 n2 c2 : Nat) (l1 l2 : List UInt8) (B1 B2 : Nat) (w : World) (h1 : Bytes w B1 A1 n1 l1) (h2 : Bytes w B2 A2 n2 l2) (b : Bool) (hb : sameB l1 l2 = b) :
    Calls Try.prog 33 #[.slice A1 n1 c1, .slice A2 n2 c2] w fun e w' => e = .returned (.bool b) ∧ w = w' := by
  have k1 := run_bytes_string (P := Try.prog) Try.underlying22 Try.underlying5 Try.underlying9 w A1 n1 c1 B1 l1 h1
  have k2 := run_bytes_string (P := Try.prog) Try.underlying22 Try.underlying5 Try.underlying9 w A2 n2 c2 B2 l2 h2
  have hbe : ((ofL l1).toList == (ofL l2).toList) = b := (bofL_beq l1 l2).trans hb
  generalize ofL l1 = s1 at *
  generalize ofL l2 = s2 at *
  clear h1 h2 hb
  go_enter Try.func33, Try.ntmps33
  go_wp2
  go_ret
  exact ⟨rfl, rfl⟩
set_option maxRecDepth 20000 in
set_option maxHeartbeats 2000000 in
theorem refSame_any (X Y : FileT) (B : Nat) (w : World) (hX : LieF w B X) (hY : LieF w B Y) (hB : B ≤ w.heap.size) :
    Calls Try.prog 11 #[X.agg, Y.agg] w fun e w' => e = .returned (.bool (sameS X.s Y.s)) ∧ Below w.heap.size w w' := by
  have hb1 := bel_alloc (bel_alloc (Below.refl w.heap.size w) (.cells #[.slice X.F.A X.F.n X.F.c, .slice X.lA X.ln X.lc, .int .i64 X.fuse, .int .i64 X.fault, .bool X.off] 25)) (.cells #[.slice Y.F.A Y.F.n Y.F.c, .slice Y.lA Y.ln Y.lc, .int .i64 Y.fuse, .int .i64 Y.fault, .bool Y.off] 25)
  have HX1 := Lib.hid ((FBox.new w X 25).later (bel_alloc (Below.refl _ _) (.cells #[.slice Y.F.A Y.F.n Y.F.c, .slice Y.lA Y.ln Y.lc, .int .i64 Y.fuse, .int .i64 Y.fault, .bool Y.off] 25)))
  have hY1 := FBox.new (w.alloc (.cells #[.slice X.F.A X.F.n X.F.c, .slice X.lA X.ln X.lc, .int .i64 X.fuse, .int .i64 X.fault, .bool X.off] 25)) Y 25
  rw [World.size_alloc] at hY1
  have HY1 := Lib.hid hY1
  obtain ⟨g0, g1, g2, g3, g4⟩ := hY1
  obtain ⟨f0, f1, f2, f3, f4⟩ := HX1.out
  have HX := Lib.hid (fun W (h : Below w.heap.size w W) => (hX.later (h.mono hB)).more (Nat.le_trans hB h.size))
  have HY := Lib.hid (fun W (h : Below w.heap.size w W) => (hY.later (h.mono hB)).more (Nat.le_trans hB h.size))
  obtain ⟨b, hb⟩ : ∃ b, sameS X.s Y.s = b := ⟨_, rfl⟩
  rw [hb]
  have Hb := Lib.hid hb
  clear hb
  simp only [FileT.agg, PcT.val]
  clear hX hY
  go_enter Try.func11, Try.ntmps11
  go_upto_region 1 with fail
  generalize (w.alloc (.cells #[.slice X.F.A X.F.n X.F.c, .slice X.lA X.ln X.lc, .int .i64 X.fuse, .int .i64 X.fault, .bool X.off] 25)).alloc (.cells #[.slice Y.F.A Y.F.n Y.F.c, .slice Y.lA Y.ln Y.lc, .int .i64 Y.fuse, .int .i64 Y.fault, .bool Y.off] 25) = W1 at *
  by_cases e1 : X.fuse = Y.fuse
  · have e1' : (X.fuse != Y.fuse) = false := by rw [bne, beq_iff_eq.2 e1]; rfl
    by_cases e2 : X.fault = Y.fault
    · have e2' : (X.fault != Y.fault) = false := by rw [bne, beq_iff_eq.2 e2]; rfl
      by_cases e3 : X.off = Y.off
      · have e3' : (X.off == Y.off) = true := beq_iff_eq.2 e3
        by_cases e5 : X.ln = Y.ln
        · have e5' : ((X.ln : Int) != (Y.ln : Int)) = false := by rw [e5, bne_self_eq_false]
          have hXl := HX.out _ hb1
          have hYl := HY.out _ hb1
          by_cases e4 : X.F.l = Y.F.l
          · have hc := rbytes_any X.F.A Y.F.A X.F.n X.F.c Y.F.n Y.F.c X.F.l Y.F.l _ _ _ hXl.firm.here hYl.firm.here true (same_yes' e4)
            have HD := Lib.hid (show decide (X.L.map (·.l) = Y.L.map (·.l)) = b by
              rw [← Hb.out]
              unfold sameS
              rw [show (X.s.fuse == Y.s.fuse) = true from beq_iff_eq.2 e1, show (X.s.fault == Y.s.fault) = true from beq_iff_eq.2 e2, show (X.s.off == Y.s.off) = true from beq_iff_eq.2 e3, show sameB X.s.firm Y.s.firm = true from same_yes' e4]
              rfl)
            have HN := Lib.hid e5
            have Hl1 := Lib.hid hXl.len
            have Hl2 := Lib.hid hYl.len
            have hln9 : X.ln ≤ 9223372036854775807 := by
              have h1 := hXl.fits
              have h2 := hXl.most
              unfold maxLen at h2
              omega
            clear e1 e2 e3 e4 e5 hXl hYl Hb
            go_wp2_with fail
            refine hc.mono ?_
            rintro e W4 ⟨rfl, rfl⟩
            clear hc
            go_wp2
            clear f0 f1 f2 f3 f4 g0 g1 g2 g3 g4 e1' e2' e3' e5'
            go_loopw [5] (fun iv wr => ∃ j : Nat, j ≤ X.ln ∧ iv = .int .i64 j ∧ Hid ((X.L.take j).map (·.l) = (Y.L.take j).map (·.l)) ∧ Below W1.heap.size W1 wr) (fun iv _ => X.ln - (intOf iv).toNat)
            case atStart => exact ⟨0, Nat.zero_le _, rfl, Lib.hid rfl, Below.refl _ _⟩
            case round =>
              obtain ⟨j, hj, rfl, HT, hbr⟩ := hrel
              rename World => wr
              have hbx := HX1.out.later hbr
              have f1 := hbx.2.1
              by_cases hlt : j < X.ln
              · have hbW := hb1.trans (hbr.mono hb1.size)
                obtain ⟨b1, o1', p, hA1, _, hp, hc1⟩ := pc_at (HX.out _ hbW).row hlt
                obtain ⟨b2, o2', q, hA2, _, hq, hc2⟩ := pc_at (HY.out _ hbW).row (show j < Y.ln by have := HN.out; omega)
                have hlt1 : (j : Int) < (X.ln : Int) := by omega
                have hlt2 : (j : Int) < (Y.ln : Int) := by have := HN.out; omega
                have hj0 : (0 : Int) ≤ (j : Int) := by omega
                have hpo := (HX.out _ hbW).loose p (List.mem_of_getElem? hp)
                have hqo := (HY.out _ hbW).loose q (List.mem_of_getElem? hq)
                have x1 : ∀ W, Below wr.heap.size wr W → W.cell? ⟨w.heap.size, 1, none⟩ = some (.slice (some ⟨b1, o1', none⟩) X.ln X.lc) := fun W h => by rw [← hA1]; exact (hbx.later h).2.1
                have y1 : ∀ W, Below wr.heap.size wr W → W.cell? ⟨w.heap.size + 1, 1, none⟩ = some (.slice (some ⟨b2, o2', none⟩) Y.ln Y.lc) := fun W h => by rw [← hA2]; exact ((HY1.out.later hbr).later h).2.1
                have c1 : ∀ W, Below wr.heap.size wr W → W.cell? ⟨b1, o1' + j, none⟩ = some (.slice p.A p.n p.c) := fun W h => kept_later h hc1
                have c2 : ∀ W, Below wr.heap.size wr W → W.cell? ⟨b2, o2' + j, none⟩ = some (.slice q.A q.n q.c) := fun W h => kept_later h hc2
                by_cases he : p.l = q.l
                · have Hc := Lib.hid (fun W (h : Below wr.heap.size wr W) => rbytes_any p.A q.A p.n p.c q.n q.c p.l q.l _ _ W (hpo.later h).here (hqo.later h).here true (same_yes' he))
                  have HT2 := Lib.hid (show (X.L.take (j + 1)).map (·.l) = (Y.L.take (j + 1)).map (·.l) by rw [take_map hp, take_map hq, HT.out, he])
                  clear he hp hq HT hpo hqo hc1 hc2 hA1 hA2 hbW hbx
                  go_upto_region 6 with fail
                  clear f1
                  refine wp_region_held_drew (S := fun W => Below wr.heap.size wr W) (by kernel_rfl) (below_drewN (Below.refl _ _) 1) (fun hHeld => ?_)
                  refine rg_in 0 rfl (by kernel_rfl) (by kernel_rfl) (by kernel_rfl) (by rfl) (v := ?_) (fun _ _ _ h => h) hHeld (fun w hSw => ?_) ?_
                  rotate_left
                  · (try dsimp only at hSw); go_simp <;> (with_reducible rfl)
                  (try simp only [Act.put, List.setIfInBounds_toArray, List.set_cons_zero, List.set_cons_succ])
                  refine rg_in 1 rfl (by kernel_rfl) (by kernel_rfl) (by kernel_rfl) (by rfl) (v := ?_) (fun _ _ _ h => h) hHeld (fun w hSw => ?_) ?_
                  rotate_left
                  · (try dsimp only at hSw); go_simp <;> (with_reducible rfl)
                  (try simp only [Act.put, List.setIfInBounds_toArray, List.set_cons_zero, List.set_cons_succ])
                  refine rg_in 2 rfl (by kernel_rfl) (by kernel_rfl) (by kernel_rfl) (by rfl) (v := ?_) (fun _ _ _ h => h) hHeld (fun w hSw => ?_) ?_
                  rotate_left
                  · (try dsimp only at hSw); go_simp <;> (with_reducible rfl)
                  (try simp only [Act.put, List.setIfInBounds_toArray, List.set_cons_zero, List.set_cons_succ])
                  refine rg_in 3 rfl (by kernel_rfl) (by kernel_rfl) (by kernel_rfl) (by rfl) (v := ?_) (fun _ _ _ h => h) hHeld (fun w hSw => ?_) ?_
                  rotate_left
                  · (try dsimp only at hSw); go_simp <;> (with_reducible rfl)
                  (try simp only [Act.put, List.setIfInBounds_toArray, List.set_cons_zero, List.set_cons_succ])
                  refine rg_in 4 rfl (by kernel_rfl) (by kernel_rfl) (by kernel_rfl) (by rfl) (v := ?_) (fun _ _ _ h => h) hHeld (fun w hSw => ?_) ?_
                  rotate_left
                  · (try dsimp only at hSw); go_simp <;> (with_reducible rfl)
                  (try simp only [Act.put, List.setIfInBounds_toArray, List.set_cons_zero, List.set_cons_succ])
                  refine rg_in 5 rfl (by kernel_rfl) (by kernel_rfl) (by kernel_rfl) (by rfl) (v := ?_) (fun _ _ _ h => h) hHeld (fun w hSw => ?_) ?_
                  rotate_left
                  · (try dsimp only at hSw); go_simp <;> (with_reducible rfl)
                  (try simp only [Act.put, List.setIfInBounds_toArray, List.set_cons_zero, List.set_cons_succ])
                  refine rg_in 6 rfl (by kernel_rfl) (by kernel_rfl) (by kernel_rfl) (by rfl) (v := ?_) (fun _ _ _ h => h) hHeld (fun w hSw => ?_) ?_
                  rotate_left
                  · (try dsimp only at hSw); go_simp <;> (with_reducible rfl)
                  (try simp only [Act.put, List.setIfInBounds_toArray, List.set_cons_zero, List.set_cons_succ])
                  refine rg_in 7 rfl (by kernel_rfl) (by kernel_rfl) (by kernel_rfl) (by rfl) (v := ?_) (fun _ _ _ h => h) hHeld (fun w hSw => ?_) ?_
                  rotate_left
                  · (try dsimp only at hSw); go_simp <;> (with_reducible rfl)
                  (try simp only [Act.put, List.setIfInBounds_toArray, List.set_cons_zero, List.set_cons_succ])
                  refine rg_in 8 rfl (by kernel_rfl) (by kernel_rfl) (by kernel_rfl) (by rfl) (v := ?_) (fun _ _ _ h => h) hHeld (fun w hSw => ?_) ?_
                  rotate_left
                  · (try dsimp only at hSw); go_simp <;> (with_reducible rfl)
                  (try simp only [Act.put, List.setIfInBounds_toArray, List.set_cons_zero, List.set_cons_succ])
                  refine rg_in 9 rfl (by kernel_rfl) (by kernel_rfl) (by kernel_rfl) (by rfl) (v := ?_) (fun _ _ _ h => h) hHeld (fun w hSw => ?_) ?_
                  rotate_left
                  · (try dsimp only at hSw); go_simp <;> (with_reducible rfl)
                  (try simp only [Act.put, List.setIfInBounds_toArray, List.set_cons_zero, List.set_cons_succ])
                  refine rg_do 10 rfl (by kernel_rfl) (by rfl) (fun K hK => ?_)
                  go_simp
                  (go_at_call 33; (with_reducible refine (Hc.out _ hHeld).mono ?_); (rintro e w9 ⟨rfl, rfl⟩))
                  refine hK.out _ _ hHeld (fun hHeld => ?_)
                  clear hK K
                  (try simp only [Act.put, List.setIfInBounds_toArray, List.set_cons_zero, List.set_cons_succ])
                  refine rg_in 11 rfl (by kernel_rfl) (by kernel_rfl) (by kernel_rfl) (by rfl) (v := ?_) (fun _ _ _ h => h) hHeld (fun w hSw => ?_) ?_
                  rotate_left
                  · (try dsimp only at hSw); go_simp <;> (with_reducible rfl)
                  (try simp only [Act.put, List.setIfInBounds_toArray, List.set_cons_zero, List.set_cons_succ])
                  refine wpAnyH_done (by kernel_rfl) ?_ _
                  have hbe := hHeld
                  have hbn := hbr.trans (hbe.mono hbr.size)
                  clear hHeld Hc x1 y1 c1 c2
                  go_wp2
                  all_goals
                    go_roundw
                    case rel => exact ⟨j + 1, by omega, by go_num, HT2, hbn⟩
                    case measure => simp [intOf]; omega
                · have Hc := Lib.hid (fun W (h : Below wr.heap.size wr W) => rbytes_any p.A q.A p.n p.c q.n q.c p.l q.l _ _ W (hpo.later h).here (hqo.later h).here false (same_no he))
                  have HB := Lib.hid (show b = false by
                    rw [← HD.out]
                    apply decide_eq_false
                    intro e
                    have := congrArg (fun l : List (List UInt8) => l[j]?) e
                    simp only [List.getElem?_map, hp, hq, Option.map_some, Option.some.injEq] at this
                    exact he this)
                  clear he hp hq HT hpo hqo hc1 hc2 hA1 hA2 hbW hbx
                  go_upto_region 6 with fail
                  clear f1
                  refine wp_region_held_drew (S := fun W => Below wr.heap.size wr W) (by kernel_rfl) (below_drewN (Below.refl _ _) 1) (fun hHeld => ?_)
                  refine rg_in 0 rfl (by kernel_rfl) (by kernel_rfl) (by kernel_rfl) (by rfl) (v := ?_) (fun _ _ _ h => h) hHeld (fun w hSw => ?_) ?_
                  rotate_left
                  · (try dsimp only at hSw); go_simp <;> (with_reducible rfl)
                  (try simp only [Act.put, List.setIfInBounds_toArray, List.set_cons_zero, List.set_cons_succ])
                  refine rg_in 1 rfl (by kernel_rfl) (by kernel_rfl) (by kernel_rfl) (by rfl) (v := ?_) (fun _ _ _ h => h) hHeld (fun w hSw => ?_) ?_
                  rotate_left
                  · (try dsimp only at hSw); go_simp <;> (with_reducible rfl)
                  (try simp only [Act.put, List.setIfInBounds_toArray, List.set_cons_zero, List.set_cons_succ])
                  refine rg_in 2 rfl (by kernel_rfl) (by kernel_rfl) (by kernel_rfl) (by rfl) (v := ?_) (fun _ _ _ h => h) hHeld (fun w hSw => ?_) ?_
                  rotate_left
                  · (try dsimp only at hSw); go_simp <;> (with_reducible rfl)
                  (try simp only [Act.put, List.setIfInBounds_toArray, List.set_cons_zero, List.set_cons_succ])
                  refine rg_in 3 rfl (by kernel_rfl) (by kernel_rfl) (by kernel_rfl) (by rfl) (v := ?_) (fun _ _ _ h => h) hHeld (fun w hSw => ?_) ?_
                  rotate_left
                  · (try dsimp only at hSw); go_simp <;> (with_reducible rfl)
                  (try simp only [Act.put, List.setIfInBounds_toArray, List.set_cons_zero, List.set_cons_succ])
                  refine rg_in 4 rfl (by kernel_rfl) (by kernel_rfl) (by kernel_rfl) (by rfl) (v := ?_) (fun _ _ _ h => h) hHeld (fun w hSw => ?_) ?_
                  rotate_left
                  · (try dsimp only at hSw); go_simp <;> (with_reducible rfl)
                  (try simp only [Act.put, List.setIfInBounds_toArray, List.set_cons_zero, List.set_cons_succ])
                  refine rg_in 5 rfl (by kernel_rfl) (by kernel_rfl) (by kernel_rfl) (by rfl) (v := ?_) (fun _ _ _ h => h) hHeld (fun w hSw => ?_) ?_
                  rotate_left
                  · (try dsimp only at hSw); go_simp <;> (with_reducible rfl)
                  (try simp only [Act.put, List.setIfInBounds_toArray, List.set_cons_zero, List.set_cons_succ])
                  refine rg_in 6 rfl (by kernel_rfl) (by kernel_rfl) (by kernel_rfl) (by rfl) (v := ?_) (fun _ _ _ h => h) hHeld (fun w hSw => ?_) ?_
                  rotate_left
                  · (try dsimp only at hSw); go_simp <;> (with_reducible rfl)
                  (try simp only [Act.put, List.setIfInBounds_toArray, List.set_cons_zero, List.set_cons_succ])
                  refine rg_in 7 rfl (by kernel_rfl) (by kernel_rfl) (by kernel_rfl) (by rfl) (v := ?_) (fun _ _ _ h => h) hHeld (fun w hSw => ?_) ?_
                  rotate_left
                  · (try dsimp only at hSw); go_simp <;> (with_reducible rfl)
                  (try simp only [Act.put, List.setIfInBounds_toArray, List.set_cons_zero, List.set_cons_succ])
                  refine rg_in 8 rfl (by kernel_rfl) (by kernel_rfl) (by kernel_rfl) (by rfl) (v := ?_) (fun _ _ _ h => h) hHeld (fun w hSw => ?_) ?_
                  rotate_left
                  · (try dsimp only at hSw); go_simp <;> (with_reducible rfl)
                  (try simp only [Act.put, List.setIfInBounds_toArray, List.set_cons_zero, List.set_cons_succ])
                  refine rg_in 9 rfl (by kernel_rfl) (by kernel_rfl) (by kernel_rfl) (by rfl) (v := ?_) (fun _ _ _ h => h) hHeld (fun w hSw => ?_) ?_
                  rotate_left
                  · (try dsimp only at hSw); go_simp <;> (with_reducible rfl)
                  (try simp only [Act.put, List.setIfInBounds_toArray, List.set_cons_zero, List.set_cons_succ])
                  refine rg_do 10 rfl (by kernel_rfl) (by rfl) (fun K hK => ?_)
                  go_simp
                  (go_at_call 33; (with_reducible refine (Hc.out _ hHeld).mono ?_); (rintro e w9 ⟨rfl, rfl⟩))
                  refine hK.out _ _ hHeld (fun hHeld => ?_)
                  clear hK K
                  (try simp only [Act.put, List.setIfInBounds_toArray, List.set_cons_zero, List.set_cons_succ])
                  refine rg_in 11 rfl (by kernel_rfl) (by kernel_rfl) (by kernel_rfl) (by rfl) (v := ?_) (fun _ _ _ h => h) hHeld (fun w hSw => ?_) ?_
                  rotate_left
                  · (try dsimp only at hSw); go_simp <;> (with_reducible rfl)
                  (try simp only [Act.put, List.setIfInBounds_toArray, List.set_cons_zero, List.set_cons_succ])
                  refine wpAnyH_done (by kernel_rfl) ?_ _
                  have hbe := hHeld
                  have hbn := hbr.trans (hbe.mono hbr.size)
                  clear hHeld Hc x1 y1 c1 c2
                  go_wp2
                  go_ret
                  exact ⟨by rw [HB.out]; rfl, hb1.trans (hbn.mono hb1.size)⟩
              · obtain rfl : j = X.ln := by omega
                have HB := Lib.hid (show b = true by
                  rw [← HD.out]
                  apply decide_eq_true
                  have h := HT.out
                  rw [List.take_of_length_le (by rw [Hl1.out]; exact Nat.le_refl _), List.take_of_length_le (by rw [Hl2.out, HN.out]; exact Nat.le_refl _)] at h
                  exact h)
                clear HT hbx
                go_wp2
                go_ret
                exact ⟨by rw [HB.out]; rfl, hb1.trans (hbr.mono hb1.size)⟩
          · have hc := rbytes_any X.F.A Y.F.A X.F.n X.F.c Y.F.n Y.F.c X.F.l Y.F.l _ _ _ hXl.firm.here hYl.firm.here false (same_no e4)
            have HB := Lib.hid (show b = false by
              rw [← Hb.out]
              unfold sameS
              rw [show (sameB X.s.firm Y.s.firm) = false from same_no e4]
              simp)
            clear e1 e2 e3 e4 e5 hXl hYl Hb
            go_wp2_with fail
            refine hc.mono ?_
            rintro e W4 ⟨rfl, rfl⟩
            clear hc
            go_wp2
            all_goals
              go_ret
              exact ⟨by rw [HB.out]; rfl, hb1⟩
        · have e5' : ((X.ln : Int) != (Y.ln : Int)) = true := by rw [bne_iff_ne]; omega
          have hl : ¬ X.s.loose = Y.s.loose := by
            intro e
            have h1 := (HX.out _ hb1).len
            have h2 := (HY.out _ hb1).len
            have h3 := congrArg List.length e
            have h4 : (X.L.map (·.l)).length = (Y.L.map (·.l)).length := h3
            rw [List.length_map, List.length_map] at h4
            omega
          have HB := Lib.hid (show b = false by
            rw [← Hb.out]
            unfold sameS
            rw [show (decide (X.s.loose = Y.s.loose)) = false from decide_eq_false hl]
            simp)
          clear e1 e2 e3 e5 hl Hb
          go_wp2
          all_goals
            go_ret
            exact ⟨by rw [HB.out]; rfl, hb1⟩
      · have e3' : (X.off == Y.off) = false := beq_eq_false_iff_ne.2 e3
        have HB := Lib.hid (show b = false by
          rw [← Hb.out]
          unfold sameS
          rw [show (X.s.off == Y.s.off) = false from beq_eq_false_iff_ne.2 e3]
          simp)
        clear e1 e2 e3 Hb
        go_wp2
        all_goals
          go_ret
          exact ⟨by rw [HB.out]; rfl, hb1⟩
    · have e2' : (X.fault != Y.fault) = true := by rw [bne, beq_eq_false_iff_ne.2 e2]; rfl
      have HB := Lib.hid (show b = false by
        rw [← Hb.out]
        unfold sameS
        rw [show (X.s.fault == Y.s.fault) = false from beq_eq_false_iff_ne.2 e2]
        simp)
      clear e1 e2 Hb
      go_wp2
      all_goals
        go_ret
        exact ⟨by rw [HB.out]; rfl, hb1⟩
  · have e1' : (X.fuse != Y.fuse) = true := by rw [bne, beq_eq_false_iff_ne.2 e1]; rfl
    have HB := Lib.hid (show b = false by
      rw [← Hb.out]
      unfold sameS
      rw [show (X.s.fuse == Y.s.fuse) = false from beq_eq_false_iff_ne.2 e1]
      simp)
    clear e1 Hb
    go_wp2
    all_goals
      go_ret
      exact ⟨by rw [HB.out]; rfl, hb1⟩
end Go.Proofs.Ythoenmggjbojoaa
