/-
  Layer 10: the work of a Sync: all bytes in one row.
-/
import Derived.Test.YthoenmggjbojoaaFilAE
namespace Go.Proofs.Ythoenmggjbojoaa
open Go.RowKit
set_option linter.unusedVariables false

set_option maxRecDepth 20000 in
set_option maxHeartbeats 4000000 in
theorem work2_any (g b1 B : Nat) (X : FileT) (u2 u3 : Int) (J : Ending → World → Prop) (w : World)
    (hV : FVar w g (.slice X.F.A X.F.n X.F.c) (.slice X.lA X.ln X.lc) (.int .i64 u2) (.int .i64 u3) (.bool false)) (h1 : w.cell? ⟨b1, 0, none⟩ = some (.pointer (some ⟨g, 0, none⟩)))
    (hg1 : b1 ≠ g) (hBg : B ≤ g) (hBW : B ≤ w.heap.size) (hL : LieF w B X) (hw2 : (Lit.int .i64 u2).wf = true) (hw3 : (Lit.int .i64 u3).wf = true) (hr : X.right = true)
    (hEnd : ∀ p W, p.l = between X.all 0 (0 + X.long) → PcT.Ok W W.heap.size p → (∀ k, k < w.heap.size → AwayF X k → AwayP p k) → Below w.heap.size w W → FVar W g (.slice X.F.A X.F.n X.F.c) (.slice X.lA X.ln X.lc) (.int .i64 u2) (.int .i64 u3) (.bool false) → J (.returned (.tuple #[])) ((W.setCell ⟨g, 0, none⟩ (.slice p.A p.n p.c)).setCell ⟨g, 1, none⟩ (.slice none 0 0))) :
    Calls Try.prog 50 #[.pointer (some ⟨b1, 0, none⟩)] w J := by
  obtain ⟨hN, hl, hln⟩ := right_rows hL hr
  obtain ⟨hlong, hmax⟩ := right_all hL hr
  have hL2 : LieF w B ⟨X.F, X.lA, X.ln, X.lc, X.L, u2, u3, false⟩ := ⟨hL.firm, hL.row, hL.loose, hL.nil, hL.fits, hL.most, hw2, hw3⟩
  have hl1 := World.block_lt_of_cell? w _ h1
  have Hle := Lib.hid (fun W (h : Below w.heap.size w W) => length_any ⟨X.F, X.lA, X.ln, X.lc, X.L, u2, u3, false⟩ B W (hL2.later (h.mono hBW)) (Nat.le_trans hBW h.size) hN)
  have Hsp := Lib.hid (fun W (h : Below w.heap.size w W) => (span_any ⟨X.F, X.lA, X.ln, X.lc, X.L, u2, u3, false⟩ 0 X.long B W (hL2.later (h.mono hBW)) (Nat.le_trans hBW h.size) hN hl (by show 0 + X.long ≤ X.all.length; omega) hmax).mono (R' := fun e w' => ∃ p : PcT, e = .returned (.slice p.A p.n p.c) ∧ p.l = between X.all 0 (0 + X.long) ∧ p.Ok w' w'.heap.size ∧ Below W.heap.size W w' ∧ ∀ k, k < w.heap.size → AwayF X k → AwayP p k) (fun e w' ⟨p, h1, h2, h3, h4, h5⟩ => ⟨p, h1, h2, h3, h4, fun k hk ha => h5 k (Nat.lt_of_lt_of_le hk h.size) ⟨ha.firm, ha.row, ha.loose⟩⟩))
  simp only [FileT.agg, PcT.val, show ((0 : Nat) : Int) = 0 from rfl] at Hle Hsp
  have hlo : (⟨X.F, X.lA, X.ln, X.lc, X.L, u2, u3, false⟩ : FileT).long = X.long := rfl
  rw [hlo] at Hle
  have xV : ∀ W, Below w.heap.size w W → FVar W g (.slice X.F.A X.F.n X.F.c) (.slice X.lA X.ln X.lc) (.int .i64 u2) (.int .i64 u3) (.bool false) := fun W h => hV.later h
  have x1 : ∀ W, SAg g B w W → W.cell? ⟨b1, 0, none⟩ = some (.pointer (some ⟨g, 0, none⟩)) := fun W h => (h.cell hl1 hg1).trans h1
  have hb1 := Lib.hid x1
  have HS0 : SAg g B w w.drew := ⟨fun k hk _ => rfl, below_drewN (Below.refl _ _) 1, hBW⟩
  have hbw : Below w.heap.size w w.drew := below_drewN (Below.refl _ _) 1
  obtain ⟨⟨v0, v1, v2, v3, v4⟩, -⟩ := hV
  have hEnd := Lib.hid hEnd
  clear hL hL2 hN hl hln hlong hmax hlo h1 hw2 hw3 hr
  go_enter Try.func50, Try.ntmps50
  go_upto_region 0 with fail
  refine wp_region_held_drew (S := fun W => SAg g B w W) (by kernel_rfl) HS0 (fun hHeld => ?_)
  refine rg_in 0 rfl (by kernel_rfl) (by kernel_rfl) (by kernel_rfl) (by rfl) (v := ?_) (fun _ _ _ h => h) hHeld (fun w hSw => ?_) ?_
  rotate_left
  · (try dsimp only at hSw); go_simp <;> (with_reducible rfl)
  (try simp only [Act.put, List.setIfInBounds_toArray, List.set_cons_zero, List.set_cons_succ])
  refine rg_in 1 rfl (by kernel_rfl) (by kernel_rfl) (by kernel_rfl) (by rfl) (v := ?_) (fun _ _ _ h => h) hHeld (fun w hSw => ?_) ?_
  rotate_left
  · (try dsimp only at hSw); go_simp <;> (with_reducible rfl)
  (try simp only [Act.put, List.setIfInBounds_toArray, List.set_cons_zero, List.set_cons_succ])
  refine rg_in 2 rfl (by kernel_rfl) (by kernel_rfl) (by kernel_rfl) (by rfl) (v := ?_) (fun _ _ _ h => h) hHeld (fun w hSw => ?_) ?_
  rotate_left
  · (try dsimp only at hSw); go_simp <;> (with_reducible rfl)
  (try simp only [Act.put, List.setIfInBounds_toArray, List.set_cons_zero, List.set_cons_succ])
  refine rg_in 3 rfl (by kernel_rfl) (by kernel_rfl) (by kernel_rfl) (by rfl) (v := ?_) (fun _ _ _ h => h) hHeld (fun w hSw => ?_) ?_
  rotate_left
  · (try dsimp only at hSw); go_simp <;> (with_reducible rfl)
  (try simp only [Act.put, List.setIfInBounds_toArray, List.set_cons_zero, List.set_cons_succ])
  refine rg_in 5 rfl (by kernel_rfl) (by kernel_rfl) (by kernel_rfl) (by rfl) (v := ?_) (fun _ _ _ h => h) hHeld (fun w hSw => ?_) ?_
  rotate_left
  · (try dsimp only at hSw); go_simp <;> (with_reducible rfl)
  (try simp only [Act.put, List.setIfInBounds_toArray, List.set_cons_zero, List.set_cons_succ])
  refine rg_in 6 rfl (by kernel_rfl) (by kernel_rfl) (by kernel_rfl) (by rfl) (v := ?_) (fun _ _ _ h => h) hHeld (fun w hSw => ?_) ?_
  rotate_left
  · (try dsimp only at hSw); go_simp <;> (with_reducible rfl)
  (try simp only [Act.put, List.setIfInBounds_toArray, List.set_cons_zero, List.set_cons_succ])
  refine rg_in 7 rfl (by kernel_rfl) (by kernel_rfl) (by kernel_rfl) (by rfl) (v := ?_) (fun _ _ _ h => h) hHeld (fun w hSw => ?_) ?_
  rotate_left
  · (try dsimp only at hSw); go_simp <;> (with_reducible rfl)
  (try simp only [Act.put, List.setIfInBounds_toArray, List.set_cons_zero, List.set_cons_succ])
  refine wpAnyH_ready (rs := [4, 8]) (by kernel_rfl) (by simp) ?_
  refine rg_cons rfl (by rfl) (fun K hK => ?_) ?_
  · obtain ⟨⟨q0, q1, q2, q3, q4⟩, -⟩ := xV _ hbw
    go_simp
    clear q0 q1 q2 q3 q4
    refine hK.out _ _ hHeld (fun hHeld => ?_)
    clear hK K
    (try simp only [Act.put, List.setIfInBounds_toArray, List.set_cons_zero, List.set_cons_succ])
    refine rg_do 8 rfl (by kernel_rfl) (by rfl) (fun K hK => ?_)
    obtain ⟨⟨q0, q1, q2, q3, q4⟩, -⟩ := xV _ hbw
    go_simp
    clear q0 q1 q2 q3 q4
    refine hK.out _ _ hHeld (fun hHeld => ?_)
    clear hK K
    (try simp only [Act.put, List.setIfInBounds_toArray, List.set_cons_zero, List.set_cons_succ])
    refine rg_do 9 rfl (by kernel_rfl) (by rfl) (fun K hK => ?_)
    go_simp
    (go_at_call 41; (with_reducible refine (Hle.out _ hbw).mono ?_); (rintro e w109 ⟨rfl, hb9⟩))
    refine hK.out _ _ (SAg.next hHeld hb9) (fun hHeld => ?_)
    clear hK K
    (try simp only [Act.put, List.setIfInBounds_toArray, List.set_cons_zero, List.set_cons_succ])
    refine rg_do 10 rfl (by kernel_rfl) (by rfl) (fun K hK => ?_)
    go_simp
    (go_at_call 43; (with_reducible refine (Hsp.out _ (bel_next hbw hb9)).mono ?_); (rintro e w110 ⟨p, rfl, hpl, hpo, hb10, hpa⟩))
    refine hK.out _ _ (SAg.next hHeld hb10) (fun hHeld => ?_)
    clear hK K
    (try simp only [Act.put, List.setIfInBounds_toArray, List.set_cons_zero, List.set_cons_succ])
    refine rg_in 11 rfl (by kernel_rfl) (by kernel_rfl) (by kernel_rfl) (by rfl) (v := ?_) (fun _ _ _ h => h) hHeld (fun w hSw => ?_) ?_
    rotate_left
    · (try dsimp only at hSw); go_simp <;> (with_reducible rfl)
    (try simp only [Act.put, List.setIfInBounds_toArray, List.set_cons_zero, List.set_cons_succ])
    refine rg_in 12 rfl (by kernel_rfl) (by kernel_rfl) (by kernel_rfl) (by rfl) (v := ?_) (fun _ _ _ h => h) hHeld (fun w hSw => ?_) ?_
    rotate_left
    · (try dsimp only at hSw); go_simp <;> (with_reducible rfl)
    (try simp only [Act.put, List.setIfInBounds_toArray, List.set_cons_zero, List.set_cons_succ])
    refine rg_in 13 rfl (by kernel_rfl) (by kernel_rfl) (by kernel_rfl) (by rfl) (v := ?_) (fun _ _ _ h => h) hHeld (fun w hSw => ?_) ?_
    rotate_left
    · (try dsimp only at hSw); go_simp <;> (with_reducible rfl)
    (try simp only [Act.put, List.setIfInBounds_toArray, List.set_cons_zero, List.set_cons_succ])
    refine rg_do 14 rfl (by kernel_rfl) (by rfl) (fun K hK => ?_)
    have hV := xV _ (bel_next (bel_next hbw hb9) hb10)
    obtain ⟨⟨q0, -⟩, f0, -⟩ := hV
    go_simp
    clear f0
    refine hK.out _ _ (SAg.set hHeld q0 hBg) (fun hHeld => ?_)
    clear hK K
    (try simp only [Act.put, List.setIfInBounds_toArray, List.set_cons_zero, List.set_cons_succ])
    refine wpAnyH_done (by kernel_rfl) ?_ _
    have hb' := (bel_next (bel_next hbw hb9) hb10)
    have hV2 := xV _ hb'
    obtain ⟨⟨q0', q1', q2', q3', q4'⟩, k0', k1', k2', k3', k4'⟩ := hV2.set0 (.slice p.A p.n p.c)
    have hp1 := hb1.out _ hHeld
    have HEnd := Lib.hid (hEnd.out p _ hpl hpo hpa hb' hV2)
    clear xV hpl hpo hpa hEnd hb1
    go_wp2
    go_end0
    exact HEnd.out
  refine rg_cons rfl (by rfl) (fun K hK => ?_) ?_
  · obtain ⟨⟨q0, q1, q2, q3, q4⟩, -⟩ := xV _ hbw
    go_simp
    clear q0 q1 q2 q3 q4
    refine hK.out _ _ hHeld (fun hHeld => ?_)
    clear hK K
    (try simp only [Act.put, List.setIfInBounds_toArray, List.set_cons_zero, List.set_cons_succ])
    refine wpAnyH_ready (rs := [4, 9]) (by kernel_rfl) (by simp) ?_
    refine rg_cons rfl (by rfl) (fun K hK => ?_) ?_
    · obtain ⟨⟨q0, q1, q2, q3, q4⟩, -⟩ := xV _ hbw
      go_simp
      clear q0 q1 q2 q3 q4
      refine hK.out _ _ hHeld (fun hHeld => ?_)
      clear hK K
      (try simp only [Act.put, List.setIfInBounds_toArray, List.set_cons_zero, List.set_cons_succ])
      refine rg_do 9 rfl (by kernel_rfl) (by rfl) (fun K hK => ?_)
      go_simp
      (go_at_call 41; (with_reducible refine (Hle.out _ hbw).mono ?_); (rintro e w109 ⟨rfl, hb9⟩))
      refine hK.out _ _ (SAg.next hHeld hb9) (fun hHeld => ?_)
      clear hK K
      (try simp only [Act.put, List.setIfInBounds_toArray, List.set_cons_zero, List.set_cons_succ])
      refine rg_do 10 rfl (by kernel_rfl) (by rfl) (fun K hK => ?_)
      go_simp
      (go_at_call 43; (with_reducible refine (Hsp.out _ (bel_next hbw hb9)).mono ?_); (rintro e w110 ⟨p, rfl, hpl, hpo, hb10, hpa⟩))
      refine hK.out _ _ (SAg.next hHeld hb10) (fun hHeld => ?_)
      clear hK K
      (try simp only [Act.put, List.setIfInBounds_toArray, List.set_cons_zero, List.set_cons_succ])
      refine rg_in 11 rfl (by kernel_rfl) (by kernel_rfl) (by kernel_rfl) (by rfl) (v := ?_) (fun _ _ _ h => h) hHeld (fun w hSw => ?_) ?_
      rotate_left
      · (try dsimp only at hSw); go_simp <;> (with_reducible rfl)
      (try simp only [Act.put, List.setIfInBounds_toArray, List.set_cons_zero, List.set_cons_succ])
      refine rg_in 12 rfl (by kernel_rfl) (by kernel_rfl) (by kernel_rfl) (by rfl) (v := ?_) (fun _ _ _ h => h) hHeld (fun w hSw => ?_) ?_
      rotate_left
      · (try dsimp only at hSw); go_simp <;> (with_reducible rfl)
      (try simp only [Act.put, List.setIfInBounds_toArray, List.set_cons_zero, List.set_cons_succ])
      refine rg_in 13 rfl (by kernel_rfl) (by kernel_rfl) (by kernel_rfl) (by rfl) (v := ?_) (fun _ _ _ h => h) hHeld (fun w hSw => ?_) ?_
      rotate_left
      · (try dsimp only at hSw); go_simp <;> (with_reducible rfl)
      (try simp only [Act.put, List.setIfInBounds_toArray, List.set_cons_zero, List.set_cons_succ])
      refine rg_do 14 rfl (by kernel_rfl) (by rfl) (fun K hK => ?_)
      have hV := xV _ (bel_next (bel_next hbw hb9) hb10)
      obtain ⟨⟨q0, -⟩, f0, -⟩ := hV
      go_simp
      clear f0
      refine hK.out _ _ (SAg.set hHeld q0 hBg) (fun hHeld => ?_)
      clear hK K
      (try simp only [Act.put, List.setIfInBounds_toArray, List.set_cons_zero, List.set_cons_succ])
      refine wpAnyH_done (by kernel_rfl) ?_ _
      have hb' := (bel_next (bel_next hbw hb9) hb10)
      have hV2 := xV _ hb'
      obtain ⟨⟨q0', q1', q2', q3', q4'⟩, k0', k1', k2', k3', k4'⟩ := hV2.set0 (.slice p.A p.n p.c)
      have hp1 := hb1.out _ hHeld
      have HEnd := Lib.hid (hEnd.out p _ hpl hpo hpa hb' hV2)
      clear xV hpl hpo hpa hEnd hb1
      go_wp2
      go_end0
      exact HEnd.out
    refine rg_cons rfl (by rfl) (fun K hK => ?_) ?_
    · go_simp
      (go_at_call 41; (with_reducible refine (Hle.out _ hbw).mono ?_); (rintro e w109 ⟨rfl, hb9⟩))
      refine hK.out _ _ (SAg.next hHeld hb9) (fun hHeld => ?_)
      clear hK K
      (try simp only [Act.put, List.setIfInBounds_toArray, List.set_cons_zero, List.set_cons_succ])
      refine rg_do 4 rfl (by kernel_rfl) (by rfl) (fun K hK => ?_)
      obtain ⟨⟨q0, q1, q2, q3, q4⟩, -⟩ := xV _ (bel_next hbw hb9)
      go_simp
      clear q0 q1 q2 q3 q4
      refine hK.out _ _ hHeld (fun hHeld => ?_)
      clear hK K
      (try simp only [Act.put, List.setIfInBounds_toArray, List.set_cons_zero, List.set_cons_succ])
      refine rg_do 10 rfl (by kernel_rfl) (by rfl) (fun K hK => ?_)
      go_simp
      (go_at_call 43; (with_reducible refine (Hsp.out _ (bel_next hbw hb9)).mono ?_); (rintro e w110 ⟨p, rfl, hpl, hpo, hb10, hpa⟩))
      refine hK.out _ _ (SAg.next hHeld hb10) (fun hHeld => ?_)
      clear hK K
      (try simp only [Act.put, List.setIfInBounds_toArray, List.set_cons_zero, List.set_cons_succ])
      refine rg_in 11 rfl (by kernel_rfl) (by kernel_rfl) (by kernel_rfl) (by rfl) (v := ?_) (fun _ _ _ h => h) hHeld (fun w hSw => ?_) ?_
      rotate_left
      · (try dsimp only at hSw); go_simp <;> (with_reducible rfl)
      (try simp only [Act.put, List.setIfInBounds_toArray, List.set_cons_zero, List.set_cons_succ])
      refine rg_in 12 rfl (by kernel_rfl) (by kernel_rfl) (by kernel_rfl) (by rfl) (v := ?_) (fun _ _ _ h => h) hHeld (fun w hSw => ?_) ?_
      rotate_left
      · (try dsimp only at hSw); go_simp <;> (with_reducible rfl)
      (try simp only [Act.put, List.setIfInBounds_toArray, List.set_cons_zero, List.set_cons_succ])
      refine rg_in 13 rfl (by kernel_rfl) (by kernel_rfl) (by kernel_rfl) (by rfl) (v := ?_) (fun _ _ _ h => h) hHeld (fun w hSw => ?_) ?_
      rotate_left
      · (try dsimp only at hSw); go_simp <;> (with_reducible rfl)
      (try simp only [Act.put, List.setIfInBounds_toArray, List.set_cons_zero, List.set_cons_succ])
      refine rg_do 14 rfl (by kernel_rfl) (by rfl) (fun K hK => ?_)
      have hV := xV _ (bel_next (bel_next hbw hb9) hb10)
      obtain ⟨⟨q0, -⟩, f0, -⟩ := hV
      go_simp
      clear f0
      refine hK.out _ _ (SAg.set hHeld q0 hBg) (fun hHeld => ?_)
      clear hK K
      (try simp only [Act.put, List.setIfInBounds_toArray, List.set_cons_zero, List.set_cons_succ])
      refine wpAnyH_done (by kernel_rfl) ?_ _
      have hb' := (bel_next (bel_next hbw hb9) hb10)
      have hV2 := xV _ hb'
      obtain ⟨⟨q0', q1', q2', q3', q4'⟩, k0', k1', k2', k3', k4'⟩ := hV2.set0 (.slice p.A p.n p.c)
      have hp1 := hb1.out _ hHeld
      have HEnd := Lib.hid (hEnd.out p _ hpl hpo hpa hb' hV2)
      clear xV hpl hpo hpa hEnd hb1
      go_wp2
      go_end0
      exact HEnd.out
    exact AllReadyH.nil
  exact AllReadyH.nil
end Go.Proofs.Ythoenmggjbojoaa
