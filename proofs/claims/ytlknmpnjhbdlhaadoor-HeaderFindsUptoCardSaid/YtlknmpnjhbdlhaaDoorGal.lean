import Derived.Test.YtlknmpnjhbdlhaaDoorGak
/-
  Layer 10: the reference's Same.
-/
namespace Go.Proofs.YtlknmpnjhbdlhaaDoor
open Go.RowKit
set_option linter.unusedVariables false

set_option maxRecDepth 20000 in
set_option maxHeartbeats 1000000 in
theorem rbytes_any (A1 A2 : Option Addr) (n1 c1 n2 c2 : Nat) (l1 l2 : List UInt8) (B1 B2 : Nat) (w : World) (h1 : Bytes w B1 A1 n1 l1) (h2 : Bytes w B2 A2 n2 l2) (b : Bool) (hb : sameB l1 l2 = b) :
    Calls Tryd.prog 39 #[.slice A1 n1 c1, .slice A2 n2 c2] w fun e w' => e = .returned (.bool b) ∧ w = w' := by
  have k1 := run_bytes_string (P := Tryd.prog) Tryd.underlying34 Tryd.underlying5 Tryd.underlying9 w A1 n1 c1 B1 l1 h1
  have k2 := run_bytes_string (P := Tryd.prog) Tryd.underlying34 Tryd.underlying5 Tryd.underlying9 w A2 n2 c2 B2 l2 h2
  have hbe : ((ofL l1).toList == (ofL l2).toList) = b := (bofL_beq l1 l2).trans hb
  generalize ofL l1 = s1 at *
  generalize ofL l2 = s2 at *
  clear h1 h2 hb
  go_enter Tryd.func39, Tryd.ntmps39
  go_wp2
  go_ret
  exact ⟨rfl, rfl⟩
set_option maxRecDepth 20000 in
set_option maxHeartbeats 2000000 in
theorem refSame_any (X Y : FileT) (B : Nat) (w : World) (hX : LieF w B X) (hY : LieF w B Y) (hB : B ≤ w.heap.size) :
    Calls Tryd.prog 18 #[X.agg, Y.agg] w fun e w' => e = .returned (.bool (sameS X.s Y.s)) ∧ Below w.heap.size w w' := by
  have hb1 := bel_alloc (bel_alloc (Below.refl w.heap.size w) (.cells #[.slice X.F.A X.F.n X.F.c, .slice X.lA X.ln X.lc, .int .i64 X.fuse, .int .i64 X.fault, .bool X.off] 37)) (.cells #[.slice Y.F.A Y.F.n Y.F.c, .slice Y.lA Y.ln Y.lc, .int .i64 Y.fuse, .int .i64 Y.fault, .bool Y.off] 37)
  have HX1 := Lib.hid ((FBox.new w X 37).later (bel_alloc (Below.refl _ _) (.cells #[.slice Y.F.A Y.F.n Y.F.c, .slice Y.lA Y.ln Y.lc, .int .i64 Y.fuse, .int .i64 Y.fault, .bool Y.off] 37)))
  have hY1 := FBox.new (w.alloc (.cells #[.slice X.F.A X.F.n X.F.c, .slice X.lA X.ln X.lc, .int .i64 X.fuse, .int .i64 X.fault, .bool X.off] 37)) Y 37
  rw [World.size_alloc] at hY1
  have HY1 := Lib.hid hY1
  obtain ⟨g0, g1, g2, g3, g4⟩ := hY1
  obtain ⟨f0, f1, f2, f3, f4⟩ := HX1.out
  have HX := Lib.hid (fun W (h : Below w.heap.size w W) => (hX.later (h.mono hB)).more (Nat.le_trans hB h.size))
  have HY := Lib.hid (fun W (h : Below w.heap.size w W) => (hY.later (h.mono hB)).more (Nat.le_trans hB h.size))
  obtain ⟨b, hb⟩ : ∃ b, sameS X.s Y.s = b := ⟨_, rfl⟩
  rw [hb]
  have Hb := Lib.hid hb
  clear hb
  simp only [FileT.agg, PcT.val]
  clear hX hY
  go_enter Tryd.func18, Tryd.ntmps18
  go_upto_region 1 with fail
  generalize (w.alloc (.cells #[.slice X.F.A X.F.n X.F.c, .slice X.lA X.ln X.lc, .int .i64 X.fuse, .int .i64 X.fault, .bool X.off] 37)).alloc (.cells #[.slice Y.F.A Y.F.n Y.F.c, .slice Y.lA Y.ln Y.lc, .int .i64 Y.fuse, .int .i64 Y.fault, .bool Y.off] 37) = W1 at *
  by_cases e1 : X.fuse = Y.fuse
  · have e1' : (X.fuse != Y.fuse) = false := by rw [bne, beq_iff_eq.2 e1]; rfl
    by_cases e2 : X.fault = Y.fault
    · have e2' : (X.fault != Y.fault) = false := by rw [bne, beq_iff_eq.2 e2]; rfl
      by_cases e3 : X.off = Y.off
      · have e3' : (X.off == Y.off) = true := beq_iff_eq.2 e3
        by_cases e5 : X.ln = Y.ln
        · have e5' : ((X.ln : Int) != (Y.ln : Int)) = false := by rw [e5, bne_self_eq_false]
          have hXl := HX.out _ hb1
          have hYl := HY.out _ hb1
          by_cases e4 : X.F.l = Y.F.l
          · have hc := rbytes_any X.F.A Y.F.A X.F.n X.F.c Y.F.n Y.F.c X.F.l Y.F.l _ _ _ hXl.firm.here hYl.firm.here true (same_yes' e4)
            have HD := Lib.hid (show decide (X.L.map (·.l) = Y.L.map (·.l)) = b by
              rw [← Hb.out]
              unfold sameS
              rw [show (X.s.fuse == Y.s.fuse) = true from beq_iff_eq.2 e1, show (X.s.fault == Y.s.fault) = true from beq_iff_eq.2 e2, show (X.s.off == Y.s.off) = true from beq_iff_eq.2 e3, show sameB X.s.firm Y.s.firm = true from same_yes' e4]
              rfl)
            have HN := Lib.hid e5
            have Hl1 := Lib.hid hXl.len
            have Hl2 := Lib.hid hYl.len
            have hln9 : X.ln ≤ 9223372036854775807 := by
              have h1 := hXl.fits
              have h2 := hXl.most
              unfold maxLen at h2
              omega
            clear e1 e2 e3 e4 e5 hXl hYl Hb
            go_wp2_with fail
            refine hc.mono ?_
            rintro e W4 ⟨rfl, rfl⟩
            clear hc
            go_wp2
            clear f0 f1 f2 f3 f4 g0 g1 g2 g3 g4 e1' e2' e3' e5'
            go_loopw [5] (fun iv wr => ∃ j : Nat, j ≤ X.ln ∧ iv = .int .i64 j ∧ Hid ((X.L.take j).map (·.l) = (Y.L.take j).map (·.l)) ∧ Below W1.heap.size W1 wr) (fun iv _ => X.ln - (intOf iv).toNat)
            case atStart => exact ⟨0, Nat.zero_le _, rfl, Lib.hid rfl, Below.refl _ _⟩
            case round =>
              obtain ⟨j, hj, rfl, HT, hbr⟩ := hrel
              rename World => wr
              have hbx := HX1.out.later hbr
              have f1 := hbx.2.1
              by_cases hlt : j < X.ln
              · have hbW := hb1.trans (hbr.mono hb1.size)
                obtain ⟨b1, o1', p, hA1, _, hp, hc1⟩ := pc_at (HX.out _ hbW).row hlt
                obtain ⟨b2, o2', q, hA2, _, hq, hc2⟩ := pc_at (HY.out _ hbW).row (show j < Y.ln by have := HN.out; omega)
                have hlt1 : (j : Int) < (X.ln : Int) := by omega
                have hlt2 : (j : Int) < (Y.ln : Int) := by have := HN.out; omega
                have hj0 : (0 : Int) ≤ (j : Int) := by omega
                have hpo := (HX.out _ hbW).loose p (List.mem_of_getElem? hp)
                have hqo := (HY.out _ hbW).loose q (List.mem_of_getElem? hq)
                have x1 : ∀ W, Below wr.heap.size wr W → W.cell? ⟨w.heap.size, 1, none⟩ = some (.slice (some ⟨b1, o1', none⟩) X.ln X.lc) := fun W h => by rw [← hA1]; exact (hbx.later h).2.1
                have y1 : ∀ W, Below wr.heap.size wr W → W.cell? ⟨w.heap.size + 1, 1, none⟩ = some (.slice (some ⟨b2, o2', none⟩) Y.ln Y.lc) := fun W h => by rw [← hA2]; exact ((HY1.out.later hbr).later h).2.1
                have c1 : ∀ W, Below wr.heap.size wr W → W.cell? ⟨b1, o1' + j, none⟩ = some (.slice p.A p.n p.c) := fun W h => kept_later h hc1
                have c2 : ∀ W, Below wr.heap.size wr W → W.cell? ⟨b2, o2' + j, none⟩ = some (.slice q.A q.n q.c) := fun W h => kept_later h hc2
                by_cases he : p.l = q.l
                · have Hc := Lib.hid (fun W (h : Below wr.heap.size wr W) => rbytes_any p.A q.A p.n p.c q.n q.c p.l q.l _ _ W (hpo.later h).here (hqo.later h).here true (same_yes' he))
                  have HT2 := Lib.hid (show (X.L.take (j + 1)).map (·.l) = (Y.L.take (j + 1)).map (·.l) by rw [take_map hp, take_map hq, HT.out, he])
                  clear he hp hq HT hpo hqo hc1 hc2 hA1 hA2 hbW hbx
                  go_upto_region 6 with fail
                  clear f1
                  refine wp_region_held_drew (S := fun W => Below wr.heap.size wr W) (by kernel_rfl) (below_drewN (Below.refl _ _) 1) (fun hHeld => ?_)
                  refine rg_in 0 rfl (by kernel_rfl) (by kernel_rfl) (by kernel_rfl) (by rfl) (v := ?_) (fun _ _ _ h => h) hHeld (fun w hSw => ?_) ?_
                  rotate_left
                  · (try dsimp only at hSw); go_simp <;> (with_reducible rfl)
                  (try simp only [Act.put, List.setIfInBounds_toArray, List.set_cons_zero, List.set_cons_succ])
                  refine rg_in 1 rfl (by kernel_rfl) (by kernel_rfl) (by kernel_rfl) (by rfl) (v := ?_) (fun _ _ _ h => h) hHeld (fun w hSw => ?_) ?_
                  rotate_left
                  · (try dsimp only at hSw); go_simp <;> (with_reducible rfl)
                  (try simp only [Act.put, List.setIfInBounds_toArray, List.set_cons_zero, List.set_cons_succ])
                  refine rg_in 2 rfl (by kernel_rfl) (by kernel_rfl) (by kernel_rfl) (by rfl) (v := ?_) (fun _ _ _ h => h) hHeld (fun w hSw => ?_) ?_
                  rotate_left
                  · (try dsimp only at hSw); go_simp <;> (with_reducible rfl)
                  (try simp only [Act.put, List.setIfInBounds_toArray, List.set_cons_zero, List.set_cons_succ])
                  refine rg_in 3 rfl (by kernel_rfl) (by kernel_rfl) (by kernel_rfl) (by rfl) (v := ?_) (fun _ _ _ h => h) hHeld (fun w hSw => ?_) ?_
                  rotate_left
                  · (try dsimp only at hSw); go_simp <;> (with_reducible rfl)
                  (try simp only [Act.put, List.setIfInBounds_toArray, List.set_cons_zero, List.set_cons_succ])
                  refine rg_in 4 rfl (by kernel_rfl) (by kernel_rfl) (by kernel_rfl) (by rfl) (v := ?_) (fun _ _ _ h => h) hHeld (fun w hSw => ?_) ?_
                  rotate_left
                  · (try dsimp only at hSw); go_simp <;> (with_reducible rfl)
                  (try simp only [Act.put, List.setIfInBounds_toArray, List.set_cons_zero, List.set_cons_succ])
                  refine rg_in 5 rfl (by kernel_rfl) (by kernel_rfl) (by kernel_rfl) (by rfl) (v := ?_) (fun _ _ _ h => h) hHeld (fun w hSw => ?_) ?_
                  rotate_left
                  · (try dsimp only at hSw); go_simp <;> (with_reducible rfl)
                  (try simp only [Act.put, List.setIfInBounds_toArray, List.set_cons_zero, List.set_cons_succ])
                  refine rg_in 6 rfl (by kernel_rfl) (by kernel_rfl) (by kernel_rfl) (by rfl) (v := ?_) (fun _ _ _ h => h) hHeld (fun w hSw => ?_) ?_
                  rotate_left
                  · (try dsimp only at hSw); go_simp <;> (with_reducible rfl)
                  (try simp only [Act.put, List.setIfInBounds_toArray, List.set_cons_zero, List.set_cons_succ])
                  refine rg_in 7 rfl (by kernel_rfl) (by kernel_rfl) (by kernel_rfl) (by rfl) (v := ?_) (fun _ _ _ h => h) hHeld (fun w hSw => ?_) ?_
                  rotate_left
                  · (try dsimp only at hSw); go_simp <;> (with_reducible rfl)
                  (try simp only [Act.put, List.setIfInBounds_toArray, List.set_cons_zero, List.set_cons_succ])
                  refine rg_in 8 rfl (by kernel_rfl) (by kernel_rfl) (by kernel_rfl) (by rfl) (v := ?_) (fun _ _ _ h => h) hHeld (fun w hSw => ?_) ?_
                  rotate_left
                  · (try dsimp only at hSw); go_simp <;> (with_reducible rfl)
                  (try simp only [Act.put, List.setIfInBounds_toArray, List.set_cons_zero, List.set_cons_succ])
                  refine rg_in 9 rfl (by kernel_rfl) (by kernel_rfl) (by kernel_rfl) (by rfl) (v := ?_) (fun _ _ _ h => h) hHeld (fun w hSw => ?_) ?_
                  rotate_left
                  · (try dsimp only at hSw); go_simp <;> (with_reducible rfl)
                  (try simp only [Act.put, List.setIfInBounds_toArray, List.set_cons_zero, List.set_cons_succ])
                  refine rg_do 10 rfl (by kernel_rfl) (by rfl) (fun K hK => ?_)
                  go_simp
                  (go_at_call 39; (with_reducible refine (Hc.out _ hHeld).mono ?_); (rintro e w9 ⟨rfl, rfl⟩))
                  refine hK.out _ _ hHeld (fun hHeld => ?_)
                  clear hK K
                  (try simp only [Act.put, List.setIfInBounds_toArray, List.set_cons_zero, List.set_cons_succ])
                  refine rg_in 11 rfl (by kernel_rfl) (by kernel_rfl) (by kernel_rfl) (by rfl) (v := ?_) (fun _ _ _ h => h) hHeld (fun w hSw => ?_) ?_
                  rotate_left
                  · (try dsimp only at hSw); go_simp <;> (with_reducible rfl)
                  (try simp only [Act.put, List.setIfInBounds_toArray, List.set_cons_zero, List.set_cons_succ])
                  refine wpAnyH_done (by kernel_rfl) ?_ _
                  have hbe := hHeld
                  have hbn := hbr.trans (hbe.mono hbr.size)
                  clear hHeld Hc x1 y1 c1 c2
                  go_wp2
                  all_goals
                    go_roundw
                    case rel => exact ⟨j + 1, by omega, by go_num, HT2, hbn⟩
                    case measure => simp [intOf]; omega
                · have Hc := Lib.hid (fun W (h : Below wr.heap.size wr W) => rbytes_any p.A q.A p.n p.c q.n q.c p.l q.l _ _ W (hpo.later h).here (hqo.later h).here false (same_no he))
                  have HB := Lib.hid (show b = false by
                    rw [← HD.out]
                    apply decide_eq_false
                    intro e
                    have := congrArg (fun l : List (List UInt8) => l[j]?) e
                    simp only [List.getElem?_map, hp, hq, Option.map_some, Option.some.injEq] at this
                    exact he this)
                  clear he hp hq HT hpo hqo hc1 hc2 hA1 hA2 hbW hbx
                  go_upto_region 6 with fail
                  clear f1
                  refine wp_region_held_drew (S := fun W => Below wr.heap.size wr W) (by kernel_rfl) (below_drewN (Below.refl _ _) 1) (fun hHeld => ?_)
                  refine rg_in 0 rfl (by kernel_rfl) (by kernel_rfl) (by kernel_rfl) (by rfl) (v := ?_) (fun _ _ _ h => h) hHeld (fun w hSw => ?_) ?_
                  rotate_left
                  · (try dsimp only at hSw); go_simp <;> (with_reducible rfl)
                  (try simp only [Act.put, List.setIfInBounds_toArray, List.set_cons_zero, List.set_cons_succ])
                  refine rg_in 1 rfl (by kernel_rfl) (by kernel_rfl) (by kernel_rfl) (by rfl) (v := ?_) (fun _ _ _ h => h) hHeld (fun w hSw => ?_) ?_
                  rotate_left
                  · (try dsimp only at hSw); go_simp <;> (with_reducible rfl)
                  (try simp only [Act.put, List.setIfInBounds_toArray, List.set_cons_zero, List.set_cons_succ])
                  refine rg_in 2 rfl (by kernel_rfl) (by kernel_rfl) (by kernel_rfl) (by rfl) (v := ?_) (fun _ _ _ h => h) hHeld (fun w hSw => ?_) ?_
                  rotate_left
                  · (try dsimp only at hSw); go_simp <;> (with_reducible rfl)
                  (try simp only [Act.put, List.setIfInBounds_toArray, List.set_cons_zero, List.set_cons_succ])
                  refine rg_in 3 rfl (by kernel_rfl) (by kernel_rfl) (by kernel_rfl) (by rfl) (v := ?_) (fun _ _ _ h => h) hHeld (fun w hSw => ?_) ?_
                  rotate_left
                  · (try dsimp only at hSw); go_simp <;> (with_reducible rfl)
                  (try simp only [Act.put, List.setIfInBounds_toArray, List.set_cons_zero, List.set_cons_succ])
                  refine rg_in 4 rfl (by kernel_rfl) (by kernel_rfl) (by kernel_rfl) (by rfl) (v := ?_) (fun _ _ _ h => h) hHeld (fun w hSw => ?_) ?_
                  rotate_left
                  · (try dsimp only at hSw); go_simp <;> (with_reducible rfl)
                  (try simp only [Act.put, List.setIfInBounds_toArray, List.set_cons_zero, List.set_cons_succ])
                  refine rg_in 5 rfl (by kernel_rfl) (by kernel_rfl) (by kernel_rfl) (by rfl) (v := ?_) (fun _ _ _ h => h) hHeld (fun w hSw => ?_) ?_
                  rotate_left
                  · (try dsimp only at hSw); go_simp <;> (with_reducible rfl)
                  (try simp only [Act.put, List.setIfInBounds_toArray, List.set_cons_zero, List.set_cons_succ])
                  refine rg_in 6 rfl (by kernel_rfl) (by kernel_rfl) (by kernel_rfl) (by rfl) (v := ?_) (fun _ _ _ h => h) hHeld (fun w hSw => ?_) ?_
                  rotate_left
                  · (try dsimp only at hSw); go_simp <;> (with_reducible rfl)
                  (try simp only [Act.put, List.setIfInBounds_toArray, List.set_cons_zero, List.set_cons_succ])
                  refine rg_in 7 rfl (by kernel_rfl) (by kernel_rfl) (by kernel_rfl) (by rfl) (v := ?_) (fun _ _ _ h => h) hHeld (fun w hSw => ?_) ?_
                  rotate_left
                  · (try dsimp only at hSw); go_simp <;> (with_reducible rfl)
                  (try simp only [Act.put, List.setIfInBounds_toArray, List.set_cons_zero, List.set_cons_succ])
                  refine rg_in 8 rfl (by kernel_rfl) (by kernel_rfl) (by kernel_rfl) (by rfl) (v := ?_) (fun _ _ _ h => h) hHeld (fun w hSw => ?_) ?_
                  rotate_left
                  · (try dsimp only at hSw); go_simp <;> (with_reducible rfl)
                  (try simp only [Act.put, List.setIfInBounds_toArray, List.set_cons_zero, List.set_cons_succ])
                  refine rg_in 9 rfl (by kernel_rfl) (by kernel_rfl) (by kernel_rfl) (by rfl) (v := ?_) (fun _ _ _ h => h) hHeld (fun w hSw => ?_) ?_
                  rotate_left
                  · (try dsimp only at hSw); go_simp <;> (with_reducible rfl)
                  (try simp only [Act.put, List.setIfInBounds_toArray, List.set_cons_zero, List.set_cons_succ])
                  refine rg_do 10 rfl (by kernel_rfl) (by rfl) (fun K hK => ?_)
                  go_simp
                  (go_at_call 39; (with_reducible refine (Hc.out _ hHeld).mono ?_); (rintro e w9 ⟨rfl, rfl⟩))
                  refine hK.out _ _ hHeld (fun hHeld => ?_)
                  clear hK K
                  (try simp only [Act.put, List.setIfInBounds_toArray, List.set_cons_zero, List.set_cons_succ])
                  refine rg_in 11 rfl (by kernel_rfl) (by kernel_rfl) (by kernel_rfl) (by rfl) (v := ?_) (fun _ _ _ h => h) hHeld (fun w hSw => ?_) ?_
                  rotate_left
                  · (try dsimp only at hSw); go_simp <;> (with_reducible rfl)
                  (try simp only [Act.put, List.setIfInBounds_toArray, List.set_cons_zero, List.set_cons_succ])
                  refine wpAnyH_done (by kernel_rfl) ?_ _
                  have hbe := hHeld
                  have hbn := hbr.trans (hbe.mono hbr.size)
                  clear hHeld Hc x1 y1 c1 c2
                  go_wp2
                  go_ret
                  exact ⟨by rw [HB.out]; rfl, hb1.trans (hbn.mono hb1.size)⟩
              · obtain rfl : j = X.ln := by omega
                have HB := Lib.hid (show b = true by
                  rw [← HD.out]
                  apply decide_eq_true
                  have h := HT.out
                  rw [List.take_of_length_le (by rw [Hl1.out]; exact Nat.le_refl _), List.take_of_length_le (by rw [Hl2.out, HN.out]; exact Nat.le_refl _)] at h
                  exact h)
                clear HT hbx
                go_wp2
                go_ret
                exact ⟨by rw [HB.out]; rfl, hb1.trans (hbr.mono hb1.size)⟩
          · have hc := rbytes_any X.F.A Y.F.A X.F.n X.F.c Y.F.n Y.F.c X.F.l Y.F.l _ _ _ hXl.firm.here hYl.firm.here false (same_no e4)
            have HB := Lib.hid (show b = false by
              rw [← Hb.out]
              unfold sameS
              rw [show (sameB X.s.firm Y.s.firm) = false from same_no e4]
              simp)
            clear e1 e2 e3 e4 e5 hXl hYl Hb
            go_wp2_with fail
            refine hc.mono ?_
            rintro e W4 ⟨rfl, rfl⟩
            clear hc
            go_wp2
            all_goals
              go_ret
              exact ⟨by rw [HB.out]; rfl, hb1⟩
        · have e5' : ((X.ln : Int) != (Y.ln : Int)) = true := by rw [bne_iff_ne]; omega
          have hl : ¬ X.s.loose = Y.s.loose := by
            intro e
            have h1 := (HX.out _ hb1).len
            have h2 := (HY.out _ hb1).len
            have h3 := congrArg List.length e
            have h4 : (X.L.map (·.l)).length = (Y.L.map (·.l)).length := h3
            rw [List.length_map, List.length_map] at h4
            omega
          have HB := Lib.hid (show b = false by
            rw [← Hb.out]
            unfold sameS
            rw [show (decide (X.s.loose = Y.s.loose)) = false from decide_eq_false hl]
            simp)
          clear e1 e2 e3 e5 hl Hb
          go_wp2
          all_goals
            go_ret
            exact ⟨by rw [HB.out]; rfl, hb1⟩
      · have e3' : (X.off == Y.off) = false := beq_eq_false_iff_ne.2 e3
        have HB := Lib.hid (show b = false by
          rw [← Hb.out]
          unfold sameS
          rw [show (X.s.off == Y.s.off) = false from beq_eq_false_iff_ne.2 e3]
          simp)
        clear e1 e2 e3 Hb
        go_wp2
        all_goals
          go_ret
          exact ⟨by rw [HB.out]; rfl, hb1⟩
    · have e2' : (X.fault != Y.fault) = true := by rw [bne, beq_eq_false_iff_ne.2 e2]; rfl
      have HB := Lib.hid (show b = false by
        rw [← Hb.out]
        unfold sameS
        rw [show (X.s.fault == Y.s.fault) = false from beq_eq_false_iff_ne.2 e2]
        simp)
      clear e1 e2 Hb
      go_wp2
      all_goals
        go_ret
        exact ⟨by rw [HB.out]; rfl, hb1⟩
  · have e1' : (X.fuse != Y.fuse) = true := by rw [bne, beq_eq_false_iff_ne.2 e1]; rfl
    have HB := Lib.hid (show b = false by
      rw [← Hb.out]
      unfold sameS
      rw [show (X.s.fuse == Y.s.fuse) = false from beq_eq_false_iff_ne.2 e1]
      simp)
    clear e1 Hb
    go_wp2
    all_goals
      go_ret
      exact ⟨by rw [HB.out]; rfl, hb1⟩
end Go.Proofs.YtlknmpnjhbdlhaaDoor
/-
  Layer 10: the operations on a file that may not be: the file as it was, and 200.
-/
namespace Go.Proofs.YtlknmpnjhbdlhaaDoor
open Go.RowKit
set_option linter.unusedVariables false

set_option maxRecDepth 20000 in
set_option maxHeartbeats 2000000 in
theorem appendF_bad (X : FileT) (p : PcT) (Zp : Nat → Prop) (B : Nat) (w : World) (hL : LieF w B X) (hB : B ≤ w.heap.size) (hN : ∀ p ∈ X.Q, p.n ≤ 1048576) (hr : X.right = false) :
    Calls Tryd.prog 38 #[X.agg, p.val] w (OpP X Zp (X.s, 200) w) := by
  have hb1 := bel_alloc (bel_alloc (bel_alloc (Below.refl w.heap.size w) (.cells #[.slice X.F.A X.F.n X.F.c, .slice X.lA X.ln X.lc, .int .i64 X.fuse, .int .i64 X.fault, .bool X.off] 37)) (.cells #[.slice p.A p.n p.c] 34)) (.cells #[.slice none 0 0, .slice none 0 0, .int .i64 0, .int .i64 0, .bool false] 37)
  have HX := (FBox.new w X 37).later (bel_alloc (bel_alloc (Below.refl _ _) (.cells #[.slice p.A p.n p.c] 34)) (.cells #[.slice none 0 0, .slice none 0 0, .int .i64 0, .int .i64 0, .bool false] 37))
  have hch := checkF_any X B _ (hL.later (hb1.mono hB)) (Nat.le_trans hB hb1.size) hN
  rw [hr] at hch
  have HV := FVar.new ((w.alloc (.cells #[.slice X.F.A X.F.n X.F.c, .slice X.lA X.ln X.lc, .int .i64 X.fuse, .int .i64 X.fault, .bool X.off] 37)).alloc (.cells #[.slice p.A p.n p.c] 34)) (.slice none 0 0) (.slice none 0 0) (.int .i64 0) (.int .i64 0) (.bool false) 37
  rw [World.size_alloc, World.size_alloc] at HV
  simp only [FileT.agg, PcT.val] at hch ⊢
  obtain ⟨f0, f1, f2, f3, f4⟩ := HX
  clear hN hr
  go_enter Tryd.func38, Tryd.ntmps38
  go_wp2_with fail
  generalize (((w.alloc (.cells #[.slice X.F.A X.F.n X.F.c, .slice X.lA X.ln X.lc, .int .i64 X.fuse, .int .i64 X.fault, .bool X.off] 37)).alloc (.cells #[.slice p.A p.n p.c] 34)).alloc (.cells #[.slice none 0 0, .slice none 0 0, .int .i64 0, .int .i64 0, .bool false] 37)) = W1 at *
  refine hch.mono ?_
  rintro e W2 ⟨rfl, hb2⟩
  have hb3 := bel_next hb1 hb2
  have f0' := kept_later hb2 f0
  have f1' := kept_later hb2 f1
  have f2' := kept_later hb2 f2
  have f3' := kept_later hb2 f3
  have f4' := kept_later hb2 f4
  obtain ⟨⟨j0, j1, j2, j3, j4⟩, k0, k1, k2, k3, k4⟩ := HV.later hb2
  have hbe := fbelow_set5 (a := .slice X.F.A X.F.n X.F.c) (b := .slice X.lA X.ln X.lc) (c := .int .i64 X.fuse) (d := .int .i64 X.fault) (e := .bool X.off) hb3 (show w.heap.size ≤ w.heap.size + 1 + 1 by omega)
  have hLe := (hL.later (hbe.mono hB)).more (Nat.le_trans hB hbe.size)
  clear hch f0 f1 f2 f3 f4 HV hb1 hb2 hL
  go_wp2
  (try rw [Exit.noGoto_ret])
  refine bodyPost_ret (v := .tuple #[.agg #[.slice X.F.A X.F.n X.F.c, .slice X.lA X.ln X.lc, .int .i64 X.fuse, .int .i64 X.fault, .bool X.off], .int .i64 200]) ?_ rfl ⟨X, rfl, rfl, hLe, hbe, fun _ _ h _ => h⟩
  simp [results, Tryd.results38, go_sem, *]
set_option maxRecDepth 20000 in
set_option maxHeartbeats 2000000 in
theorem syncF_bad (X : FileT)  (Zp : Nat → Prop) (B : Nat) (w : World) (hL : LieF w B X) (hB : B ≤ w.heap.size) (hN : ∀ p ∈ X.Q, p.n ≤ 1048576) (hr : X.right = false) :
    Calls Tryd.prog 44 #[X.agg] w (OpP X Zp (X.s, 200) w) := by
  have hb1 := bel_alloc (bel_alloc (Below.refl w.heap.size w) (.cells #[.slice X.F.A X.F.n X.F.c, .slice X.lA X.ln X.lc, .int .i64 X.fuse, .int .i64 X.fault, .bool X.off] 37)) (.cells #[.slice none 0 0, .slice none 0 0, .int .i64 0, .int .i64 0, .bool false] 37)
  have HX := (FBox.new w X 37).later (bel_alloc (Below.refl _ _) (.cells #[.slice none 0 0, .slice none 0 0, .int .i64 0, .int .i64 0, .bool false] 37))
  have hch := checkF_any X B _ (hL.later (hb1.mono hB)) (Nat.le_trans hB hb1.size) hN
  rw [hr] at hch
  have HV := FVar.new (w.alloc (.cells #[.slice X.F.A X.F.n X.F.c, .slice X.lA X.ln X.lc, .int .i64 X.fuse, .int .i64 X.fault, .bool X.off] 37)) (.slice none 0 0) (.slice none 0 0) (.int .i64 0) (.int .i64 0) (.bool false) 37
  rw [World.size_alloc] at HV
  simp only [FileT.agg, PcT.val] at hch ⊢
  obtain ⟨f0, f1, f2, f3, f4⟩ := HX
  clear hN hr
  go_enter Tryd.func44, Tryd.ntmps44
  go_wp2_with fail
  generalize ((w.alloc (.cells #[.slice X.F.A X.F.n X.F.c, .slice X.lA X.ln X.lc, .int .i64 X.fuse, .int .i64 X.fault, .bool X.off] 37)).alloc (.cells #[.slice none 0 0, .slice none 0 0, .int .i64 0, .int .i64 0, .bool false] 37)) = W1 at *
  refine hch.mono ?_
  rintro e W2 ⟨rfl, hb2⟩
  have hb3 := bel_next hb1 hb2
  have f0' := kept_later hb2 f0
  have f1' := kept_later hb2 f1
  have f2' := kept_later hb2 f2
  have f3' := kept_later hb2 f3
  have f4' := kept_later hb2 f4
  obtain ⟨⟨j0, j1, j2, j3, j4⟩, k0, k1, k2, k3, k4⟩ := HV.later hb2
  have hbe := fbelow_set5 (a := .slice X.F.A X.F.n X.F.c) (b := .slice X.lA X.ln X.lc) (c := .int .i64 X.fuse) (d := .int .i64 X.fault) (e := .bool X.off) hb3 (show w.heap.size ≤ w.heap.size + 1 by omega)
  have hLe := (hL.later (hbe.mono hB)).more (Nat.le_trans hB hbe.size)
  clear hch f0 f1 f2 f3 f4 HV hb1 hb2 hL
  go_wp2
  (try rw [Exit.noGoto_ret])
  refine bodyPost_ret (v := .tuple #[.agg #[.slice X.F.A X.F.n X.F.c, .slice X.lA X.ln X.lc, .int .i64 X.fuse, .int .i64 X.fault, .bool X.off], .int .i64 200]) ?_ rfl ⟨X, rfl, rfl, hLe, hbe, fun _ _ h _ => h⟩
  simp [results, Tryd.results44, go_sem, *]
set_option maxRecDepth 20000 in
set_option maxHeartbeats 2000000 in
theorem crashF_bad (X : FileT) (k : BoT) (tear cut : Int) (Zp : Nat → Prop) (B : Nat) (w : World) (hL : LieF w B X) (hB : B ≤ w.heap.size) (hN : ∀ p ∈ X.Q, p.n ≤ 1048576) (hr : X.right = false) :
    Calls Tryd.prog 28 #[X.agg, .slice k.A k.n k.c, .int .i64 tear, .int .i64 cut] w (OpP X Zp (X.s, 200) w) := by
  have hb1 := bel_alloc (bel_alloc (Below.refl w.heap.size w) (.cells #[.slice X.F.A X.F.n X.F.c, .slice X.lA X.ln X.lc, .int .i64 X.fuse, .int .i64 X.fault, .bool X.off] 37)) (.cells #[.slice none 0 0, .slice none 0 0, .int .i64 0, .int .i64 0, .bool false] 37)
  have HX := (FBox.new w X 37).later (bel_alloc (Below.refl _ _) (.cells #[.slice none 0 0, .slice none 0 0, .int .i64 0, .int .i64 0, .bool false] 37))
  have hch := checkF_any X B _ (hL.later (hb1.mono hB)) (Nat.le_trans hB hb1.size) hN
  rw [hr] at hch
  have HV := FVar.new (w.alloc (.cells #[.slice X.F.A X.F.n X.F.c, .slice X.lA X.ln X.lc, .int .i64 X.fuse, .int .i64 X.fault, .bool X.off] 37)) (.slice none 0 0) (.slice none 0 0) (.int .i64 0) (.int .i64 0) (.bool false) 37
  rw [World.size_alloc] at HV
  simp only [FileT.agg, PcT.val] at hch ⊢
  obtain ⟨f0, f1, f2, f3, f4⟩ := HX
  clear hN hr
  go_enter Tryd.func28, Tryd.ntmps28
  go_wp2_with fail
  generalize ((w.alloc (.cells #[.slice X.F.A X.F.n X.F.c, .slice X.lA X.ln X.lc, .int .i64 X.fuse, .int .i64 X.fault, .bool X.off] 37)).alloc (.cells #[.slice none 0 0, .slice none 0 0, .int .i64 0, .int .i64 0, .bool false] 37)) = W1 at *
  refine hch.mono ?_
  rintro e W2 ⟨rfl, hb2⟩
  have hb3 := bel_next hb1 hb2
  have f0' := kept_later hb2 f0
  have f1' := kept_later hb2 f1
  have f2' := kept_later hb2 f2
  have f3' := kept_later hb2 f3
  have f4' := kept_later hb2 f4
  obtain ⟨⟨j0, j1, j2, j3, j4⟩, k0, k1, k2, k3, k4⟩ := HV.later hb2
  have hbe := fbelow_set5 (a := .slice X.F.A X.F.n X.F.c) (b := .slice X.lA X.ln X.lc) (c := .int .i64 X.fuse) (d := .int .i64 X.fault) (e := .bool X.off) hb3 (show w.heap.size ≤ w.heap.size + 1 by omega)
  have hLe := (hL.later (hbe.mono hB)).more (Nat.le_trans hB hbe.size)
  clear hch f0 f1 f2 f3 f4 HV hb1 hb2 hL
  go_wp2
  (try rw [Exit.noGoto_ret])
  refine bodyPost_ret (v := .tuple #[.agg #[.slice X.F.A X.F.n X.F.c, .slice X.lA X.ln X.lc, .int .i64 X.fuse, .int .i64 X.fault, .bool X.off], .int .i64 200]) ?_ rfl ⟨X, rfl, rfl, hLe, hbe, fun _ _ h _ => h⟩
  simp [results, Tryd.results28, go_sem, *]
end Go.Proofs.YtlknmpnjhbdlhaaDoor
/-
  Layer 10: the reference's Asked.
-/
namespace Go.Proofs.YtlknmpnjhbdlhaaDoor
open Go.RowKit
set_option linter.unusedVariables false

theorem lie_put {w w' : World} {B : Nat} {X : FileT} (hL : LieF w B X) (hb : Below w.heap.size w w') (hB : B ≤ w.heap.size) {fu fa : Int} {of : Bool} (h1 : (Lit.int .i64 fu).wf = true) (h2 : (Lit.int .i64 fa).wf = true) :
    LieF w' w'.heap.size ⟨X.F, X.lA, X.ln, X.lc, X.L, fu, fa, of⟩ := by
  have h := (hL.later (hb.mono hB)).more (Nat.le_trans hB hb.size)
  exact ⟨h.firm, h.row, h.loose, h.nil, h.fits, h.most, h1, h2⟩
theorem wf_down {n : Int} (h : (Lit.int .i64 n).wf = true) (h0 : 0 < n) : (Lit.int .i64 (n - 1)).wf = true := by
  have := wf_i64 h
  have e : (decide (IntKind.i64.min ≤ n - 1) && decide (n - 1 ≤ IntKind.i64.max)) = true := by
    rw [Bool.and_eq_true, decide_eq_true_iff, decide_eq_true_iff]
    have h1 : IntKind.i64.min = -9223372036854775808 := rfl
    have h2 : IntKind.i64.max = 9223372036854775807 := rfl
    omega
  exact e
set_option maxRecDepth 20000 in
set_option maxHeartbeats 4000000 in
theorem refAsked_any (X : FileT) (gr : Nat) (B : Nat) (w : World) (hg : gr ≤ 1048576) (hL : LieF w B X) (hB : B ≤ w.heap.size) (hr : X.right = true) :
    Calls Tryd.prog 40 #[X.agg, .int .i64 gr] w (OpP X (fun _ => True) (X.s.asked X.long gr) w) := by
  obtain ⟨hN, hl, -⟩ := right_rows hL hr
  have HLo := Lib.hid (fun W (h : Below w.heap.size w W) => refLong_any X B W (hL.later (h.mono hB)) (Nat.le_trans hB h.size) hN)
  simp only [FileT.agg, PcT.val] at HLo ⊢
  clear hN hr
  obtain ⟨out, hout⟩ : ∃ out, X.s.asked X.long gr = out := ⟨_, rfl⟩
  have Hout := Lib.hid hout
  rw [hout]
  clear hout
  cases hof : X.off
  · have hb := bel_alloc (bel_alloc (Below.refl w.heap.size w) (.cells #[.slice X.F.A X.F.n X.F.c, .slice X.lA X.ln X.lc, .int .i64 X.fuse, .int .i64 X.fault, .bool false] 37)) (.cells #[.slice none 0 0, .slice none 0 0, .int .i64 0, .int .i64 0, .bool false] 37)
    have HV := Lib.hid ((FVar.new w (.slice X.F.A X.F.n X.F.c) (.slice X.lA X.ln X.lc) (.int .i64 X.fuse) (.int .i64 X.fault) (.bool false) 37).lay (.cells #[.slice none 0 0, .slice none 0 0, .int .i64 0, .int .i64 0, .bool false] 37))
    have hR := FVar.new (w.alloc (.cells #[.slice X.F.A X.F.n X.F.c, .slice X.lA X.ln X.lc, .int .i64 X.fuse, .int .i64 X.fault, .bool false] 37)) (.slice none 0 0) (.slice none 0 0) (.int .i64 0) (.int .i64 0) (.bool false) 37
    rw [World.size_alloc] at hR
    have HR := Lib.hid hR
    clear hR
    rw [hof] at HLo
    have Hof := Lib.hid hof
    clear hof
    go_enter Tryd.func40, Tryd.ntmps40
    go_upto_region 1 with fail
    generalize (w.alloc (.cells #[.slice X.F.A X.F.n X.F.c, .slice X.lA X.ln X.lc, .int .i64 X.fuse, .int .i64 X.fault, .bool false] 37)).alloc (.cells #[.slice none 0 0, .slice none 0 0, .int .i64 0, .int .i64 0, .bool false] 37) = W1 at *
    obtain ⟨⟨f0, f1, f2, f3, f4⟩, k0, k1, k2, k3, k4⟩ := HV.out
    obtain ⟨⟨j0, j1, j2, j3, j4⟩, m0, m1, m2, m3, m4⟩ := HR.out
    go_wp2_with fail
    refine (HLo.out _ hb).mono ?_
    rintro e W2 ⟨rfl, hb2⟩
    clear f0 f1 f2 f3 f4 k0 k1 k2 k3 k4 j0 j1 j2 j3 j4 m0 m1 m2 m3 m4
    have HV := Lib.hid (HV.out.later hb2)
    have HR := Lib.hid (HR.out.later hb2)
    have hb := bel_next hb hb2
    clear hb2 HLo
    obtain ⟨⟨f0, f1, f2, f3, f4⟩, k0, k1, k2, k3, k4⟩ := HV.out
    obtain ⟨⟨j0, j1, j2, j3, j4⟩, m0, m1, m2, m3, m4⟩ := HR.out
    have e0 : IntKind.i64.wrap ((X.long : Int) + (gr : Int)) = ((X.long + gr : Nat) : Int) := by rw [IntKind.wrap_i64]; omega
    have e9 : wrap64 ((X.long : Int) + (gr : Int)) = ((X.long + gr : Nat) : Int) := by unfold wrap64; omega
    by_cases h2 : 524288 < X.long + gr
    · have HO := Lib.hid (Hout.out.symm.trans (asked_2 Hof.out h2))
      have h2' : ((524288 : Int) < ((X.long + gr : Nat) : Int)) = True := by simp; omega
      generalize X.long + gr = lg at *
      generalize X.long = lo at *
      clear h2 hg hl
      have hbe := fbelow_set5 (a := .slice X.F.A X.F.n X.F.c) (b := .slice X.lA X.ln X.lc) (c := .int .i64 X.fuse) (d := .int .i64 X.fault) (e := .bool false) hb (show w.heap.size ≤ w.heap.size + 1 by omega)
      have hLe := Lib.hid (lie_put hL hbe hB (fu := X.fuse) (fa := X.fault) (of := false) hL.fuse hL.fault)
      clear hb hL
      go_wp2
      (try rw [Exit.noGoto_ret])
      refine bodyPost_ret (v := .tuple #[.agg #[.slice X.F.A X.F.n X.F.c, .slice X.lA X.ln X.lc, .int .i64 X.fuse, .int .i64 X.fault, .bool false], .int .i64 8]) ?_ rfl ⟨⟨X.F, X.lA, X.ln, X.lc, X.L, X.fuse, X.fault, false⟩, by rw [HO.out]; rfl, by rw [HO.out]; (first | rfl | exact congrArg _ Hof.out.symm | (rw [Hof.out]; rfl)), hLe.out, hbe, fun _ _ h _ => ⟨h.firm, h.row, h.loose⟩⟩
      simp [results, Tryd.results40, go_sem, *]
    · have h2' : ((524288 : Int) < ((X.long + gr : Nat) : Int)) = False := by simp; omega
      by_cases h3 : X.fault = 0
      · have HO := Lib.hid (Hout.out.symm.trans (asked_3 Hof.out h2 h3))
        have h3' : (X.fault == 0) = true := beq_iff_eq.2 h3
        generalize X.long + gr = lg at *
        generalize X.long = lo at *
        clear h2 h3 hg hl
        go_upto_region 7 with fail
        clear f0 f1 f2 f3 f4 k0 k1 k2 k3 k4 j0 j1 j2 j3 j4 m0 m1 m2 m3 m4
        have HV := Lib.hid (HV.out.set3 (.int .i64 (-1)))
        have HR := Lib.hid (HR.out.other (g := w.heap.size) (i := 3) (.int .i64 (-1)) (Nat.succ_ne_self _))
        have hb := Below.setCell hb (p := ⟨w.heap.size, 3, none⟩) (Nat.le_refl w.heap.size) (.int .i64 (-1))
        generalize W2.setCell ⟨w.heap.size, 3, none⟩ (.int .i64 (-1)) = W5 at *
        obtain ⟨⟨f0, f1, f2, f3, f4⟩, k0, k1, k2, k3, k4⟩ := HV.out
        obtain ⟨⟨j0, j1, j2, j3, j4⟩, m0, m1, m2, m3, m4⟩ := HR.out
        have hbe := fbelow_set5 (a := .slice X.F.A X.F.n X.F.c) (b := .slice X.lA X.ln X.lc) (c := .int .i64 X.fuse) (d := .int .i64 (-1)) (e := .bool false) hb (show w.heap.size ≤ w.heap.size + 1 by omega)
        have hLe := Lib.hid (lie_put hL hbe hB (fu := X.fuse) (fa := (-1)) (of := false) hL.fuse (by decide))
        clear hb hL
        go_wp2
        (try rw [Exit.noGoto_ret])
        refine bodyPost_ret (v := .tuple #[.agg #[.slice X.F.A X.F.n X.F.c, .slice X.lA X.ln X.lc, .int .i64 X.fuse, .int .i64 (-1), .bool false], .int .i64 9]) ?_ rfl ⟨⟨X.F, X.lA, X.ln, X.lc, X.L, X.fuse, (-1), false⟩, by rw [HO.out]; rfl, by rw [HO.out]; (first | rfl | exact congrArg _ Hof.out.symm | (rw [Hof.out]; rfl)), hLe.out, hbe, fun _ _ h _ => ⟨h.firm, h.row, h.loose⟩⟩
        simp [results, Tryd.results40, go_sem, *]
      · have h3' : (X.fault == 0) = false := beq_eq_false_iff_ne.2 h3
        by_cases h6 : 0 < X.fault
        · have h6' : (0 < X.fault) = True := eq_true h6
          have e3 : IntKind.i64.wrap (X.fault - 1) = X.fault - 1 := by rw [IntKind.wrap_i64]; have := wf_i64 hL.fault; omega
          have e4 : wrap64 (X.fault - 1) = X.fault - 1 := by unfold wrap64; have := wf_i64 hL.fault; omega
          have wfa : (Lit.int .i64 (X.fault - 1)).wf = true := wf_down hL.fault h6
          have A4 := Lib.hid (fun h4 : X.fuse = 0 => Hout.out.symm.trans ((asked_4 Hof.out h2 h3 h4).trans (by rw [show tickN X.fault = X.fault - 1 from if_pos h6])))
          have A5 := Lib.hid (fun h4 : ¬ X.fuse = 0 => Hout.out.symm.trans ((asked_5 Hof.out h2 h3 h4).trans (by rw [show tickN X.fault = X.fault - 1 from if_pos h6])))
          generalize X.long + gr = lg at *
          generalize X.long = lo at *
          clear h2 h3 h6 hg hl
          go_upto_region 10 with fail
          clear f0 f1 f2 f3 f4 k0 k1 k2 k3 k4 j0 j1 j2 j3 j4 m0 m1 m2 m3 m4
          have HV := Lib.hid (HV.out.set3 (.int .i64 (X.fault - 1)))
          have HR := Lib.hid (HR.out.other (g := w.heap.size) (i := 3) (.int .i64 (X.fault - 1)) (Nat.succ_ne_self _))
          have hb := Below.setCell hb (p := ⟨w.heap.size, 3, none⟩) (Nat.le_refl w.heap.size) (.int .i64 (X.fault - 1))
          generalize W2.setCell ⟨w.heap.size, 3, none⟩ (.int .i64 (X.fault - 1)) = W4 at *
          obtain ⟨⟨f0, f1, f2, f3, f4⟩, k0, k1, k2, k3, k4⟩ := HV.out
          obtain ⟨⟨j0, j1, j2, j3, j4⟩, m0, m1, m2, m3, m4⟩ := HR.out
          by_cases h4 : X.fuse = 0
          · have HO := Lib.hid (A4.out h4)
            have h4' : (X.fuse == 0) = true := beq_iff_eq.2 h4
            clear h4
            go_upto_region 12 with fail
            clear f0 f1 f2 f3 f4 k0 k1 k2 k3 k4 j0 j1 j2 j3 j4 m0 m1 m2 m3 m4
            have HV := Lib.hid (HV.out.set2 (.int .i64 (-1)))
            have HR := Lib.hid (HR.out.other (g := w.heap.size) (i := 2) (.int .i64 (-1)) (Nat.succ_ne_self _))
            have hb := Below.setCell hb (p := ⟨w.heap.size, 2, none⟩) (Nat.le_refl w.heap.size) (.int .i64 (-1))
            generalize W4.setCell ⟨w.heap.size, 2, none⟩ (.int .i64 (-1)) = W5 at *
            obtain ⟨⟨f0, f1, f2, f3, f4⟩, k0, k1, k2, k3, k4⟩ := HV.out
            obtain ⟨⟨j0, j1, j2, j3, j4⟩, m0, m1, m2, m3, m4⟩ := HR.out
            go_upto_region 13 with fail
            clear f0 f1 f2 f3 f4 k0 k1 k2 k3 k4 j0 j1 j2 j3 j4 m0 m1 m2 m3 m4
            have HV := Lib.hid (HV.out.set4 (.bool true))
            have HR := Lib.hid (HR.out.other (g := w.heap.size) (i := 4) (.bool true) (Nat.succ_ne_self _))
            have hb := Below.setCell hb (p := ⟨w.heap.size, 4, none⟩) (Nat.le_refl w.heap.size) (.bool true)
            generalize W5.setCell ⟨w.heap.size, 4, none⟩ (.bool true) = W6 at *
            obtain ⟨⟨f0, f1, f2, f3, f4⟩, k0, k1, k2, k3, k4⟩ := HV.out
            obtain ⟨⟨j0, j1, j2, j3, j4⟩, m0, m1, m2, m3, m4⟩ := HR.out
            have hbe := fbelow_set5 (a := .slice X.F.A X.F.n X.F.c) (b := .slice X.lA X.ln X.lc) (c := .int .i64 (-1)) (d := .int .i64 (X.fault - 1)) (e := .bool true) hb (show w.heap.size ≤ w.heap.size + 1 by omega)
            have hLe := Lib.hid (lie_put hL hbe hB (fu := (-1)) (fa := (X.fault - 1)) (of := true) (by decide) wfa)
            clear hb hL
            go_wp2
            (try rw [Exit.noGoto_ret])
            refine bodyPost_ret (v := .tuple #[.agg #[.slice X.F.A X.F.n X.F.c, .slice X.lA X.ln X.lc, .int .i64 (-1), .int .i64 (X.fault - 1), .bool true], .int .i64 10]) ?_ rfl ⟨⟨X.F, X.lA, X.ln, X.lc, X.L, (-1), (X.fault - 1), true⟩, by rw [HO.out]; rfl, by rw [HO.out]; (first | rfl | exact congrArg _ Hof.out.symm | (rw [Hof.out]; rfl)), hLe.out, hbe, fun _ _ h _ => ⟨h.firm, h.row, h.loose⟩⟩
            simp [results, Tryd.results40, go_sem, *]
          · have HO := Lib.hid (A5.out h4)
            have h4' : (X.fuse == 0) = false := beq_eq_false_iff_ne.2 h4
            clear h4
            by_cases h5 : 0 < X.fuse
            · have h5' : (0 < X.fuse) = True := eq_true h5
              have HO := Lib.hid (HO.out.trans (by rw [show tickN X.fuse = X.fuse - 1 from if_pos h5]))
              have e1 : IntKind.i64.wrap (X.fuse - 1) = X.fuse - 1 := by rw [IntKind.wrap_i64]; have := wf_i64 hL.fuse; omega
              have e2 : wrap64 (X.fuse - 1) = X.fuse - 1 := by unfold wrap64; have := wf_i64 hL.fuse; omega
              have wfu : (Lit.int .i64 (X.fuse - 1)).wf = true := wf_down hL.fuse h5
              clear h5
              go_upto_region 16 with fail
              clear f0 f1 f2 f3 f4 k0 k1 k2 k3 k4 j0 j1 j2 j3 j4 m0 m1 m2 m3 m4
              have HV := Lib.hid (HV.out.set2 (.int .i64 (X.fuse - 1)))
              have HR := Lib.hid (HR.out.other (g := w.heap.size) (i := 2) (.int .i64 (X.fuse - 1)) (Nat.succ_ne_self _))
              have hb := Below.setCell hb (p := ⟨w.heap.size, 2, none⟩) (Nat.le_refl w.heap.size) (.int .i64 (X.fuse - 1))
              generalize W4.setCell ⟨w.heap.size, 2, none⟩ (.int .i64 (X.fuse - 1)) = W5 at *
              obtain ⟨⟨f0, f1, f2, f3, f4⟩, k0, k1, k2, k3, k4⟩ := HV.out
              obtain ⟨⟨j0, j1, j2, j3, j4⟩, m0, m1, m2, m3, m4⟩ := HR.out
              have hbe := fbelow_set5 (a := .slice X.F.A X.F.n X.F.c) (b := .slice X.lA X.ln X.lc) (c := .int .i64 (X.fuse - 1)) (d := .int .i64 (X.fault - 1)) (e := .bool false) hb (show w.heap.size ≤ w.heap.size + 1 by omega)
              have hLe := Lib.hid (lie_put hL hbe hB (fu := (X.fuse - 1)) (fa := (X.fault - 1)) (of := false) wfu wfa)
              clear hb hL
              go_wp2
              (try rw [Exit.noGoto_ret])
              refine bodyPost_ret (v := .tuple #[.agg #[.slice X.F.A X.F.n X.F.c, .slice X.lA X.ln X.lc, .int .i64 (X.fuse - 1), .int .i64 (X.fault - 1), .bool false], .int .i64 0]) ?_ rfl ⟨⟨X.F, X.lA, X.ln, X.lc, X.L, (X.fuse - 1), (X.fault - 1), false⟩, by rw [HO.out]; rfl, by rw [HO.out]; (first | rfl | exact congrArg _ Hof.out.symm | (rw [Hof.out]; rfl)), hLe.out, hbe, fun _ _ h _ => ⟨h.firm, h.row, h.loose⟩⟩
              simp [results, Tryd.results40, go_sem, *]
            · have h5' : (0 < X.fuse) = False := eq_false h5
              have HO := Lib.hid (HO.out.trans (by rw [show tickN X.fuse = X.fuse from if_neg h5]))
              clear h5
              have hbe := fbelow_set5 (a := .slice X.F.A X.F.n X.F.c) (b := .slice X.lA X.ln X.lc) (c := .int .i64 X.fuse) (d := .int .i64 (X.fault - 1)) (e := .bool false) hb (show w.heap.size ≤ w.heap.size + 1 by omega)
              have hLe := Lib.hid (lie_put hL hbe hB (fu := X.fuse) (fa := (X.fault - 1)) (of := false) hL.fuse wfa)
              clear hb hL
              go_wp2
              (try rw [Exit.noGoto_ret])
              refine bodyPost_ret (v := .tuple #[.agg #[.slice X.F.A X.F.n X.F.c, .slice X.lA X.ln X.lc, .int .i64 X.fuse, .int .i64 (X.fault - 1), .bool false], .int .i64 0]) ?_ rfl ⟨⟨X.F, X.lA, X.ln, X.lc, X.L, X.fuse, (X.fault - 1), false⟩, by rw [HO.out]; rfl, by rw [HO.out]; (first | rfl | exact congrArg _ Hof.out.symm | (rw [Hof.out]; rfl)), hLe.out, hbe, fun _ _ h _ => ⟨h.firm, h.row, h.loose⟩⟩
              simp [results, Tryd.results40, go_sem, *]
        · have h6' : (0 < X.fault) = False := eq_false h6
          have A4 := Lib.hid (fun h4 : X.fuse = 0 => Hout.out.symm.trans ((asked_4 Hof.out h2 h3 h4).trans (by rw [show tickN X.fault = X.fault from if_neg h6])))
          have A5 := Lib.hid (fun h4 : ¬ X.fuse = 0 => Hout.out.symm.trans ((asked_5 Hof.out h2 h3 h4).trans (by rw [show tickN X.fault = X.fault from if_neg h6])))
          generalize X.long + gr = lg at *
          generalize X.long = lo at *
          clear h2 h3 h6 hg hl
          by_cases h4 : X.fuse = 0
          · have HO := Lib.hid (A4.out h4)
            have h4' : (X.fuse == 0) = true := beq_iff_eq.2 h4
            clear h4
            go_upto_region 12 with fail
            clear f0 f1 f2 f3 f4 k0 k1 k2 k3 k4 j0 j1 j2 j3 j4 m0 m1 m2 m3 m4
            have HV := Lib.hid (HV.out.set2 (.int .i64 (-1)))
            have HR := Lib.hid (HR.out.other (g := w.heap.size) (i := 2) (.int .i64 (-1)) (Nat.succ_ne_self _))
            have hb := Below.setCell hb (p := ⟨w.heap.size, 2, none⟩) (Nat.le_refl w.heap.size) (.int .i64 (-1))
            generalize W2.setCell ⟨w.heap.size, 2, none⟩ (.int .i64 (-1)) = W5 at *
            obtain ⟨⟨f0, f1, f2, f3, f4⟩, k0, k1, k2, k3, k4⟩ := HV.out
            obtain ⟨⟨j0, j1, j2, j3, j4⟩, m0, m1, m2, m3, m4⟩ := HR.out
            go_upto_region 13 with fail
            clear f0 f1 f2 f3 f4 k0 k1 k2 k3 k4 j0 j1 j2 j3 j4 m0 m1 m2 m3 m4
            have HV := Lib.hid (HV.out.set4 (.bool true))
            have HR := Lib.hid (HR.out.other (g := w.heap.size) (i := 4) (.bool true) (Nat.succ_ne_self _))
            have hb := Below.setCell hb (p := ⟨w.heap.size, 4, none⟩) (Nat.le_refl w.heap.size) (.bool true)
            generalize W5.setCell ⟨w.heap.size, 4, none⟩ (.bool true) = W6 at *
            obtain ⟨⟨f0, f1, f2, f3, f4⟩, k0, k1, k2, k3, k4⟩ := HV.out
            obtain ⟨⟨j0, j1, j2, j3, j4⟩, m0, m1, m2, m3, m4⟩ := HR.out
            have hbe := fbelow_set5 (a := .slice X.F.A X.F.n X.F.c) (b := .slice X.lA X.ln X.lc) (c := .int .i64 (-1)) (d := .int .i64 X.fault) (e := .bool true) hb (show w.heap.size ≤ w.heap.size + 1 by omega)
            have hLe := Lib.hid (lie_put hL hbe hB (fu := (-1)) (fa := X.fault) (of := true) (by decide) hL.fault)
            clear hb hL
            go_wp2
            (try rw [Exit.noGoto_ret])
            refine bodyPost_ret (v := .tuple #[.agg #[.slice X.F.A X.F.n X.F.c, .slice X.lA X.ln X.lc, .int .i64 (-1), .int .i64 X.fault, .bool true], .int .i64 10]) ?_ rfl ⟨⟨X.F, X.lA, X.ln, X.lc, X.L, (-1), X.fault, true⟩, by rw [HO.out]; rfl, by rw [HO.out]; (first | rfl | exact congrArg _ Hof.out.symm | (rw [Hof.out]; rfl)), hLe.out, hbe, fun _ _ h _ => ⟨h.firm, h.row, h.loose⟩⟩
            simp [results, Tryd.results40, go_sem, *]
          · have HO := Lib.hid (A5.out h4)
            have h4' : (X.fuse == 0) = false := beq_eq_false_iff_ne.2 h4
            clear h4
            by_cases h5 : 0 < X.fuse
            · have h5' : (0 < X.fuse) = True := eq_true h5
              have HO := Lib.hid (HO.out.trans (by rw [show tickN X.fuse = X.fuse - 1 from if_pos h5]))
              have e1 : IntKind.i64.wrap (X.fuse - 1) = X.fuse - 1 := by rw [IntKind.wrap_i64]; have := wf_i64 hL.fuse; omega
              have e2 : wrap64 (X.fuse - 1) = X.fuse - 1 := by unfold wrap64; have := wf_i64 hL.fuse; omega
              have wfu : (Lit.int .i64 (X.fuse - 1)).wf = true := wf_down hL.fuse h5
              clear h5
              go_upto_region 16 with fail
              clear f0 f1 f2 f3 f4 k0 k1 k2 k3 k4 j0 j1 j2 j3 j4 m0 m1 m2 m3 m4
              have HV := Lib.hid (HV.out.set2 (.int .i64 (X.fuse - 1)))
              have HR := Lib.hid (HR.out.other (g := w.heap.size) (i := 2) (.int .i64 (X.fuse - 1)) (Nat.succ_ne_self _))
              have hb := Below.setCell hb (p := ⟨w.heap.size, 2, none⟩) (Nat.le_refl w.heap.size) (.int .i64 (X.fuse - 1))
              generalize W2.setCell ⟨w.heap.size, 2, none⟩ (.int .i64 (X.fuse - 1)) = W5 at *
              obtain ⟨⟨f0, f1, f2, f3, f4⟩, k0, k1, k2, k3, k4⟩ := HV.out
              obtain ⟨⟨j0, j1, j2, j3, j4⟩, m0, m1, m2, m3, m4⟩ := HR.out
              have hbe := fbelow_set5 (a := .slice X.F.A X.F.n X.F.c) (b := .slice X.lA X.ln X.lc) (c := .int .i64 (X.fuse - 1)) (d := .int .i64 X.fault) (e := .bool false) hb (show w.heap.size ≤ w.heap.size + 1 by omega)
              have hLe := Lib.hid (lie_put hL hbe hB (fu := (X.fuse - 1)) (fa := X.fault) (of := false) wfu hL.fault)
              clear hb hL
              go_wp2
              (try rw [Exit.noGoto_ret])
              refine bodyPost_ret (v := .tuple #[.agg #[.slice X.F.A X.F.n X.F.c, .slice X.lA X.ln X.lc, .int .i64 (X.fuse - 1), .int .i64 X.fault, .bool false], .int .i64 0]) ?_ rfl ⟨⟨X.F, X.lA, X.ln, X.lc, X.L, (X.fuse - 1), X.fault, false⟩, by rw [HO.out]; rfl, by rw [HO.out]; (first | rfl | exact congrArg _ Hof.out.symm | (rw [Hof.out]; rfl)), hLe.out, hbe, fun _ _ h _ => ⟨h.firm, h.row, h.loose⟩⟩
              simp [results, Tryd.results40, go_sem, *]
            · have h5' : (0 < X.fuse) = False := eq_false h5
              have HO := Lib.hid (HO.out.trans (by rw [show tickN X.fuse = X.fuse from if_neg h5]))
              clear h5
              have hbe := fbelow_set5 (a := .slice X.F.A X.F.n X.F.c) (b := .slice X.lA X.ln X.lc) (c := .int .i64 X.fuse) (d := .int .i64 X.fault) (e := .bool false) hb (show w.heap.size ≤ w.heap.size + 1 by omega)
              have hLe := Lib.hid (lie_put hL hbe hB (fu := X.fuse) (fa := X.fault) (of := false) hL.fuse hL.fault)
              clear hb hL
              go_wp2
              (try rw [Exit.noGoto_ret])
              refine bodyPost_ret (v := .tuple #[.agg #[.slice X.F.A X.F.n X.F.c, .slice X.lA X.ln X.lc, .int .i64 X.fuse, .int .i64 X.fault, .bool false], .int .i64 0]) ?_ rfl ⟨⟨X.F, X.lA, X.ln, X.lc, X.L, X.fuse, X.fault, false⟩, by rw [HO.out]; rfl, by rw [HO.out]; (first | rfl | exact congrArg _ Hof.out.symm | (rw [Hof.out]; rfl)), hLe.out, hbe, fun _ _ h _ => ⟨h.firm, h.row, h.loose⟩⟩
              simp [results, Tryd.results40, go_sem, *]
  · have hb := bel_alloc (bel_alloc (Below.refl w.heap.size w) (.cells #[.slice X.F.A X.F.n X.F.c, .slice X.lA X.ln X.lc, .int .i64 X.fuse, .int .i64 X.fault, .bool true] 37)) (.cells #[.slice none 0 0, .slice none 0 0, .int .i64 0, .int .i64 0, .bool false] 37)
    have HV := Lib.hid ((FVar.new w (.slice X.F.A X.F.n X.F.c) (.slice X.lA X.ln X.lc) (.int .i64 X.fuse) (.int .i64 X.fault) (.bool true) 37).lay (.cells #[.slice none 0 0, .slice none 0 0, .int .i64 0, .int .i64 0, .bool false] 37))
    have hR := FVar.new (w.alloc (.cells #[.slice X.F.A X.F.n X.F.c, .slice X.lA X.ln X.lc, .int .i64 X.fuse, .int .i64 X.fault, .bool true] 37)) (.slice none 0 0) (.slice none 0 0) (.int .i64 0) (.int .i64 0) (.bool false) 37
    rw [World.size_alloc] at hR
    have HR := Lib.hid hR
    clear hR
    have HO := Lib.hid (Hout.out.symm.trans (asked_1 hof))
    rw [hof] at HO
    clear hof HLo hl hg
    go_enter Tryd.func40, Tryd.ntmps40
    go_upto_region 1 with fail
    generalize (w.alloc (.cells #[.slice X.F.A X.F.n X.F.c, .slice X.lA X.ln X.lc, .int .i64 X.fuse, .int .i64 X.fault, .bool true] 37)).alloc (.cells #[.slice none 0 0, .slice none 0 0, .int .i64 0, .int .i64 0, .bool false] 37) = W1 at *
    obtain ⟨⟨f0, f1, f2, f3, f4⟩, k0, k1, k2, k3, k4⟩ := HV.out
    obtain ⟨⟨j0, j1, j2, j3, j4⟩, m0, m1, m2, m3, m4⟩ := HR.out
    have hbe := fbelow_set5 (a := .slice X.F.A X.F.n X.F.c) (b := .slice X.lA X.ln X.lc) (c := .int .i64 X.fuse) (d := .int .i64 X.fault) (e := .bool true) hb (show w.heap.size ≤ w.heap.size + 1 by omega)
    have hLe := Lib.hid (lie_put hL hbe hB (fu := X.fuse) (fa := X.fault) (of := true) hL.fuse hL.fault)
    clear hb hL
    go_wp2
    (try rw [Exit.noGoto_ret])
    refine bodyPost_ret (v := .tuple #[.agg #[.slice X.F.A X.F.n X.F.c, .slice X.lA X.ln X.lc, .int .i64 X.fuse, .int .i64 X.fault, .bool true], .int .i64 10]) ?_ rfl ⟨⟨X.F, X.lA, X.ln, X.lc, X.L, X.fuse, X.fault, true⟩, by rw [HO.out]; rfl, by rw [HO.out]; (first | rfl | exact congrArg _ Hof.out.symm | (rw [Hof.out]; rfl)), hLe.out, hbe, fun _ _ h _ => ⟨h.firm, h.row, h.loose⟩⟩
    simp [results, Tryd.results40, go_sem, *]
end Go.Proofs.YtlknmpnjhbdlhaaDoor
/-
  Layer 10: the reference's Sync.
-/
namespace Go.Proofs.YtlknmpnjhbdlhaaDoor
open Go.RowKit
set_option linter.unusedVariables false

theorem FVar.other5 {W : World} {g k : Nat} {a b c d e a' b' c' d' e' : Value} (hk : k ≠ g) (h : FVar W k a b c d e) : FVar (set5F W g a' b' c' d' e') k a b c d e :=
  FVar.other e' hk (FVar.other d' hk (FVar.other c' hk (FVar.other b' hk (FVar.other a' hk h))))
end Go.Proofs.YtlknmpnjhbdlhaaDoor
