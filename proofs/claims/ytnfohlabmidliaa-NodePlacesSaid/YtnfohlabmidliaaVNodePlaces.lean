import Derived.Test.YtnfohlabmidliaaGal
import Derived.Test.YtnfohlabmidliaaVNodAd
import Derived.Test.YtnfohlabmidliaaVNodRh
import Derived.Test.YtnfohlabmidliaaVNodRi
/-
  The law NodePlaces: Place tells where a key stands in a node.
-/
namespace Go.Proofs.Ytnfohlabmidliaa
open Go.RowKit
set_option linter.unusedVariables false
set_option linter.unusedSimpArgs false

/-- What stands behind the copies: the node's variable, the key's bytes. -/
def PlcR (X : NoT) (l : List UInt8) (w W : World) (g : Nat) (A : Option Addr) (n c : Nat) : Prop :=
  ∃ Y : NoT, NBox W g (.bool Y.leaf) (.slice Y.iA Y.iN Y.iC) (.slice Y.kA Y.kN Y.kC) ∧ LieN W W.heap.size Y ∧ PcT.Ok W W.heap.size ⟨A, n, c, l⟩ ∧ g < W.heap.size ∧ Below w.heap.size w W
set_option maxRecDepth 20000 in
set_option maxHeartbeats 4000000 in
theorem nodePlaces_walk (w : World) (X : NoT) (hX : LieN w w.heap.size X) (A1 : Option Addr) (len1 cap1 : Nat) (l1 : List UInt8) (h1 : Bytes w w.heap.size A1 len1 l1) (hA1 : A1 = none → cap1 = 0) (hn1 : len1 ≤ cap1) (hc1 : cap1 ≤ maxLen) :
    Calls Try.prog 6 #[X.agg, .slice A1 len1 cap1] w fun e w' => e = .returned (.bool true) ∧ Below w.heap.size w w' := by
  obtain ⟨m, hm⟩ : ∃ m : Nat, m = min len1 200 := ⟨_, rfl⟩
  have hmn : m ≤ len1 := by omega
  have hm2 : m ≤ 200 := by omega
  have e1 : min (len1 : Int) 200 = (m : Int) := by omega
  have e2 : (if (200 : Int) < (len1 : Int) then (200 : Int) else (len1 : Int)) = (m : Int) := by split <;> omega
  have j1 : (m : Int) ≤ (len1 : Int) := by omega
  have j2 : (len1 : Int) ≤ (cap1 : Int) := by omega
  have j3 : (m : Int) ≤ (cap1 : Int) := by omega
  have hcm : cap1 ≤ 9223372036854775807 := by unfold maxLen at hc1; exact hc1
  have HF := Lib.hid (h1.first hmn)
  clear h1 hc1 hm
  obtain ⟨iN', hiN, hzN⟩ := nnode_info
  have hb0 := bel_alloc (Below.refl w.heap.size w) (.cells #[.bool X.leaf, .slice X.iA X.iN X.iC, .slice X.kA X.kN X.kC] 25)
  have hL := hX.later hb0
  have hn := NBox.new w (.bool X.leaf) (.slice X.iA X.iN X.iC) (.slice X.kA X.kN X.kC) 25
  have hagX : X.agg = .agg #[.bool X.leaf, .slice X.iA X.iN X.iC, .slice X.kA X.kN X.kC] := rfl
  have HL := Lib.hid hL
  have HN := Lib.hid hn
  have HA := Lib.hid hagX
  rw [hagX]
  clear hX hL hn hagX
  go_enter Try.func6, Try.ntmps6
  go_wp2_with fail
  generalize w.alloc (.cells #[.bool X.leaf, .slice X.iA X.iN X.iC, .slice X.kA X.kN X.kC] 25) = W1 at *
  refine (nwakes_any _).mono ?_
  rintro e W2 ⟨rfl, hb1⟩
  have hb2 := bel_next hb0 hb1
  have HBZ := Lib.hid hb2
  have hcO : ∀ W, Below W2.heap.size W2 W → Calls Try.prog 12 #[.agg #[.bool X.leaf, .slice X.iA X.iN X.iC, .slice X.kA X.kN X.kC]] W (OwnP X W) := fun W h => nown_any X w.heap.size W (HL.out.later ((hb1.mono hb0.size).trans (h.mono hb2.size))) (Nat.le_trans hb2.size h.size)
  obtain ⟨l2, hl2⟩ : ∃ l2, l1.take m = l2 := ⟨_, rfl⟩
  rw [hl2] at HF
  have hcC : ∀ W, Below W2.heap.size W2 W → Calls Try.prog 24 #[.slice A1 m cap1] W (GivesBytes 5 l2 W) := fun W h => clone_any A1 m cap1 l2 w.heap.size W (HF.out.below (hb2.trans (h.mono hb2.size))) hA1 (Nat.le_trans hb2.size h.size) (by omega)
  have HcO := Lib.hid hcO
  have HcC := Lib.hid hcC
  have hx := HN.out.later hb1
  have hcx0 : ∀ W, Below W2.heap.size W2 W → W.cell? ⟨w.heap.size, 0, none⟩ = some (.bool X.leaf) := fun W h => (hx.later h).1.1
  have hcx1 : ∀ W, Below W2.heap.size W2 W → W.cell? ⟨w.heap.size, 1, none⟩ = some (.slice X.iA X.iN X.iC) := fun W h => (hx.later h).1.2.1
  have hcx2 : ∀ W, Below W2.heap.size W2 W → W.cell? ⟨w.heap.size, 2, none⟩ = some (.slice X.kA X.kN X.kC) := fun W h => (hx.later h).1.2.2
  clear hb0 hb1 hb2 hcO hcC hl2 hx hA1 hn1 hmn
  go_upto_region 3 with fail
  go_cut [5, 1] (fun s k wx => ∃ (gb : Nat) (A : Option Addr) (n c : Nat), s = .pointer (some ⟨gb, 0, none⟩) ∧ k = .slice A n c ∧ PlcR X l2 w wx gb A n c)
  case first =>
    refine wp_region_held_drew (S := fun W => Below W2.heap.size W2 W) (by kernel_rfl) (below_drewN (Below.refl _ _) 1) (fun hHeld => ?_)
    refine rg_in 0 rfl (by kernel_rfl) (by kernel_rfl) (by kernel_rfl) (by rfl) (v := ?_) (fun _ _ _ h => h) hHeld (fun w hSw => ?_) ?_
    rotate_left
    · (try dsimp only at hSw); go_simp <;> (with_reducible rfl)
    (try simp only [Act.put, List.setIfInBounds_toArray, List.set_cons_zero, List.set_cons_succ])
    refine rg_in 2 rfl (by kernel_rfl) (by kernel_rfl) (by kernel_rfl) (by rfl) (v := ?_) (fun _ _ _ h => h) hHeld (fun w hSw => ?_) ?_
    rotate_left
    · (try dsimp only at hSw); go_simp <;> (with_reducible rfl)
    (try simp only [Act.put, List.setIfInBounds_toArray, List.set_cons_zero, List.set_cons_succ])
    refine rg_in 3 rfl (by kernel_rfl) (by kernel_rfl) (by kernel_rfl) (by rfl) (v := ?_) (fun _ _ _ h => h) hHeld (fun w hSw => ?_) ?_
    rotate_left
    · (try dsimp only at hSw); go_simp <;> (with_reducible rfl)
    (try simp only [Act.put, List.setIfInBounds_toArray, List.set_cons_zero, List.set_cons_succ])
    refine rg_in 4 rfl (by kernel_rfl) (by kernel_rfl) (by kernel_rfl) (by rfl) (v := ?_) (fun _ _ _ h => h) hHeld (fun w hSw => ?_) ?_
    rotate_left
    · (try dsimp only at hSw); go_simp <;> (with_reducible rfl)
    (try simp only [Act.put, List.setIfInBounds_toArray, List.set_cons_zero, List.set_cons_succ])
    refine rg_in 5 rfl (by kernel_rfl) (by kernel_rfl) (by kernel_rfl) (by rfl) (v := ?_) (fun _ _ _ h => h) hHeld (fun w hSw => ?_) ?_
    rotate_left
    · (try dsimp only at hSw); go_simp <;> (with_reducible rfl)
    (try simp only [Act.put, List.setIfInBounds_toArray, List.set_cons_zero, List.set_cons_succ])
    refine rg_in 6 rfl (by kernel_rfl) (by kernel_rfl) (by kernel_rfl) (by rfl) (v := ?_) (fun _ _ _ h => h) hHeld (fun w hSw => ?_) ?_
    rotate_left
    · (try dsimp only at hSw); go_simp <;> (with_reducible rfl)
    (try simp only [Act.put, List.setIfInBounds_toArray, List.set_cons_zero, List.set_cons_succ])
    refine wpAnyH_ready (rs := [1, 8]) (by kernel_rfl) (by simp) ?_
    refine rg_cons rfl (by rfl) (fun K hK => ?_) ?_
    · go_simp
      (go_at_call 12; (with_reducible refine (HcO.out _ hHeld).mono ?_); (rintro e w101 ⟨hb1, Y, rfl, hO⟩))
      have hagY : Y.agg = .agg #[.bool Y.leaf, .slice Y.iA Y.iN Y.iC, .slice Y.kA Y.kN Y.kC] := rfl
      rw [hagY]
      clear hagY
      refine hK.out _ _ (bel_next hHeld hb1) (fun hHeld => ?_)
      clear hK K
      (try simp only [Act.put, List.setIfInBounds_toArray, List.set_cons_zero, List.set_cons_succ])
      refine wpAnyH_ready (rs := [7, 8]) (by kernel_rfl) (by simp) ?_
      refine rg_cons rfl (by rfl) (fun K hK => ?_) ?_
      · go_simp
        (go_at_call 24; (with_reducible refine (HcC.out _ hHeld).mono ?_); (rintro e w107 ⟨A, n, c, rfl, hKy, hb7⟩))
        refine hK.out _ _ (bel_next hHeld hb7) (fun hHeld => ?_)
        clear hK K
        (try simp only [Act.put, List.setIfInBounds_toArray, List.set_cons_zero, List.set_cons_succ])
        refine rg_do 8 rfl (by kernel_rfl) (by rfl) (fun K hK => ?_)
        have hgw := hHeld.size
        refine step_alloc 25 rfl iN' _ hiN hzN ?_
        intro gb w108 hge hbox hb8
        refine hK.out _ _ (bel_next hHeld hb8) (fun hHeld => ?_)
        clear hK K
        (try simp only [Act.put, List.setIfInBounds_toArray, List.set_cons_zero, List.set_cons_succ])
        refine rg_do 9 rfl (by kernel_rfl) (by rfl) (fun K hK => ?_)
        have hbx := hbox
        simp only [Value.cells] at hbx
        have hO9 := Lib.hid ((hO.later (bel_next hb7 hb8)))
        have hK9 := Lib.hid ((own_later hKy hb8))
        have hbn := nbox_blk hbx
        obtain ⟨⟨n0, n1, n2⟩, e0, e1, e2⟩ := hbn
        go_simp
        clear n0 n1 n2 e0 e1 e2
        refine hK.out _ _ (set3_below hHeld (Nat.le_trans hgw hge) _ _ _) (fun hHeld => ?_)
        clear hK K
        (try simp only [Act.put, List.setIfInBounds_toArray, List.set_cons_zero, List.set_cons_succ])
        refine rg_in 10 rfl (by kernel_rfl) (by kernel_rfl) (by kernel_rfl) (by rfl) (v := ?_) (fun _ _ _ h => h) hHeld (fun w hSw => ?_) ?_
        rotate_left
        · (try dsimp only at hSw); go_simp <;> (with_reducible rfl)
        (try simp only [Act.put, List.setIfInBounds_toArray, List.set_cons_zero, List.set_cons_succ])
        refine wpAnyH_done (by kernel_rfl) ?_ _
        have HM : PlcR X l2 w _ gb A n c := ⟨Y, (nbox_blk hbx).set3 (.bool Y.leaf) (.slice Y.iA Y.iN Y.iC) (.slice Y.kA Y.kN Y.kC), (hO9.out.set3 hbx _ _ _).lie, own_ok (p := ⟨A, n, c, l2⟩) (own_set3 hK9.out hbx (by decide) _ _ _), by rw [set3_size]; exact blk_lt hbx, HBZ.out.trans (hHeld.mono HBZ.out.size)⟩
        unfold set3 at HM
        have HM := Lib.hid HM
        clear hHeld hO9 hK9 hbx hO hKy hbox
        go_wp2_with fail
        go_meet
        case rel => exact ⟨gb, A, n, c, rfl, rfl, HM.out⟩
      refine rg_cons rfl (by rfl) (fun K hK => ?_) ?_
      · have hgw := hHeld.size
        refine step_alloc 25 rfl iN' _ hiN hzN ?_
        intro gb w108 hge hbox hb8
        refine hK.out _ _ (bel_next hHeld hb8) (fun hHeld => ?_)
        clear hK K
        (try simp only [Act.put, List.setIfInBounds_toArray, List.set_cons_zero, List.set_cons_succ])
        refine rg_do 7 rfl (by kernel_rfl) (by rfl) (fun K hK => ?_)
        go_simp
        (go_at_call 24; (with_reducible refine (HcC.out _ hHeld).mono ?_); (rintro e w107 ⟨A, n, c, rfl, hKy, hb7⟩))
        refine hK.out _ _ (bel_next hHeld hb7) (fun hHeld => ?_)
        clear hK K
        (try simp only [Act.put, List.setIfInBounds_toArray, List.set_cons_zero, List.set_cons_succ])
        refine rg_do 9 rfl (by kernel_rfl) (by rfl) (fun K hK => ?_)
        have hbx := (blk_later hbox hb7)
        simp only [Value.cells] at hbx
        have hO9 := Lib.hid ((hO.later (bel_next hb8 hb7)))
        have hK9 := Lib.hid (hKy)
        have hbn := nbox_blk hbx
        obtain ⟨⟨n0, n1, n2⟩, e0, e1, e2⟩ := hbn
        go_simp
        clear n0 n1 n2 e0 e1 e2
        refine hK.out _ _ (set3_below hHeld (Nat.le_trans hgw hge) _ _ _) (fun hHeld => ?_)
        clear hK K
        (try simp only [Act.put, List.setIfInBounds_toArray, List.set_cons_zero, List.set_cons_succ])
        refine rg_in 10 rfl (by kernel_rfl) (by kernel_rfl) (by kernel_rfl) (by rfl) (v := ?_) (fun _ _ _ h => h) hHeld (fun w hSw => ?_) ?_
        rotate_left
        · (try dsimp only at hSw); go_simp <;> (with_reducible rfl)
        (try simp only [Act.put, List.setIfInBounds_toArray, List.set_cons_zero, List.set_cons_succ])
        refine wpAnyH_done (by kernel_rfl) ?_ _
        have HM : PlcR X l2 w _ gb A n c := ⟨Y, (nbox_blk hbx).set3 (.bool Y.leaf) (.slice Y.iA Y.iN Y.iC) (.slice Y.kA Y.kN Y.kC), (hO9.out.set3 hbx _ _ _).lie, own_ok (p := ⟨A, n, c, l2⟩) (own_set3 hK9.out hbx (by decide) _ _ _), by rw [set3_size]; exact blk_lt hbx, HBZ.out.trans (hHeld.mono HBZ.out.size)⟩
        unfold set3 at HM
        have HM := Lib.hid HM
        clear hHeld hO9 hK9 hbx hO hKy hbox
        go_wp2_with fail
        go_meet
        case rel => exact ⟨gb, A, n, c, rfl, rfl, HM.out⟩
      exact AllReadyH.nil
    refine rg_cons rfl (by rfl) (fun K hK => ?_) ?_
    · have hgw := hHeld.size
      refine step_alloc 25 rfl iN' _ hiN hzN ?_
      intro gb w108 hge hbox hb8
      refine hK.out _ _ (bel_next hHeld hb8) (fun hHeld => ?_)
      clear hK K
      (try simp only [Act.put, List.setIfInBounds_toArray, List.set_cons_zero, List.set_cons_succ])
      refine rg_do 1 rfl (by kernel_rfl) (by rfl) (fun K hK => ?_)
      go_simp
      (go_at_call 12; (with_reducible refine (HcO.out _ hHeld).mono ?_); (rintro e w101 ⟨hb1, Y, rfl, hO⟩))
      have hagY : Y.agg = .agg #[.bool Y.leaf, .slice Y.iA Y.iN Y.iC, .slice Y.kA Y.kN Y.kC] := rfl
      rw [hagY]
      clear hagY
      refine hK.out _ _ (bel_next hHeld hb1) (fun hHeld => ?_)
      clear hK K
      (try simp only [Act.put, List.setIfInBounds_toArray, List.set_cons_zero, List.set_cons_succ])
      refine rg_do 7 rfl (by kernel_rfl) (by rfl) (fun K hK => ?_)
      go_simp
      (go_at_call 24; (with_reducible refine (HcC.out _ hHeld).mono ?_); (rintro e w107 ⟨A, n, c, rfl, hKy, hb7⟩))
      refine hK.out _ _ (bel_next hHeld hb7) (fun hHeld => ?_)
      clear hK K
      (try simp only [Act.put, List.setIfInBounds_toArray, List.set_cons_zero, List.set_cons_succ])
      refine rg_do 9 rfl (by kernel_rfl) (by rfl) (fun K hK => ?_)
      have hbx := (blk_later hbox (bel_next hb1 hb7))
      simp only [Value.cells] at hbx
      have hO9 := Lib.hid ((hO.later hb7))
      have hK9 := Lib.hid (hKy)
      have hbn := nbox_blk hbx
      obtain ⟨⟨n0, n1, n2⟩, e0, e1, e2⟩ := hbn
      go_simp
      clear n0 n1 n2 e0 e1 e2
      refine hK.out _ _ (set3_below hHeld (Nat.le_trans hgw hge) _ _ _) (fun hHeld => ?_)
      clear hK K
      (try simp only [Act.put, List.setIfInBounds_toArray, List.set_cons_zero, List.set_cons_succ])
      refine rg_in 10 rfl (by kernel_rfl) (by kernel_rfl) (by kernel_rfl) (by rfl) (v := ?_) (fun _ _ _ h => h) hHeld (fun w hSw => ?_) ?_
      rotate_left
      · (try dsimp only at hSw); go_simp <;> (with_reducible rfl)
      (try simp only [Act.put, List.setIfInBounds_toArray, List.set_cons_zero, List.set_cons_succ])
      refine wpAnyH_done (by kernel_rfl) ?_ _
      have HM : PlcR X l2 w _ gb A n c := ⟨Y, (nbox_blk hbx).set3 (.bool Y.leaf) (.slice Y.iA Y.iN Y.iC) (.slice Y.kA Y.kN Y.kC), (hO9.out.set3 hbx _ _ _).lie, own_ok (p := ⟨A, n, c, l2⟩) (own_set3 hK9.out hbx (by decide) _ _ _), by rw [set3_size]; exact blk_lt hbx, HBZ.out.trans (hHeld.mono HBZ.out.size)⟩
      unfold set3 at HM
      have HM := Lib.hid HM
      clear hHeld hO9 hK9 hbx hO hKy hbox
      go_wp2_with fail
      go_meet
      case rel => exact ⟨gb, A, n, c, rfl, rfl, HM.out⟩
    exact AllReadyH.nil
  case rest =>
    obtain ⟨gb, A, n, c, rfl, rfl, Y, hNB, hLY, hPK, hgb, hbz⟩ := hcut
    rename World => W3
    have HNB := Lib.hid hNB
    have HLY := Lib.hid hLY
    have HPK := Lib.hid hPK
    have hcp : Calls Try.prog 28 #[.agg #[.bool Y.leaf, .slice Y.iA Y.iN Y.iC, .slice Y.kA Y.kN Y.kC], .slice A n c] W3 (PlaP Y l2 W3) := place14_any Y ⟨A, n, c, l2⟩ W3.heap.size W3 hLY hPK (Nat.le_refl _)
    obtain ⟨⟨m0, m1, m2⟩, -⟩ := hNB
    clear hLY hPK hcx0 hcx1 hcx2 HcO HcC HBZ e1 e2 j1 j2 j3 hcm hm2
    go_wp2_with fail
    refine hcp.mono ?_
    rintro e W4 ⟨hb4, hh⟩
    have hcr : Calls Try.prog 13 #[.agg #[.bool Y.leaf, .slice Y.iA Y.iN Y.iC, .slice Y.kA Y.kN Y.kC]] W4 fun e w' => e = .returned (.bool Y.okB) ∧ Below W4.heap.size W4 w' := rRight14_any Y W3.heap.size W4 (HLY.out.later hb4) hb4.size
    obtain ⟨⟨m0, m1, m2⟩, -⟩ := HNB.out.later hb4
    have hbz4 := bel_next hbz hb4
    clear hcp
    rcases hh with ⟨hok, rfl⟩ | ⟨hok, rfl⟩
    · rw [hok] at hcr
      clear hok
      go_wp2_with fail
      refine hcr.mono ?_
      rintro e W5 ⟨rfl, hb5⟩
      have hbz5 := bel_next hbz4 hb5
      clear hcr hb5 hbz4
      go_wp2
      go_ret
      exact ⟨rfl, hbz5⟩
    · rw [hok] at hcr
      have HOK := Lib.hid hok
      clear hok
      go_wp2_with fail
      refine hcr.mono ?_
      rintro e W5 ⟨rfl, hb5⟩
      have hb45 := bel_next hb4 hb5
      have hcq : Calls Try.prog 29 #[.agg #[.bool Y.leaf, .slice Y.iA Y.iN Y.iC, .slice Y.kA Y.kN Y.kC], .slice A n c] W5 fun e w' => e = .returned (.tuple #[.int .i64 (Y.plAt l2 : Nat), .bool (Y.isAt l2)]) ∧ Below W5.heap.size W5 w' := rPlace14_any Y ⟨A, n, c, l2⟩ W3.heap.size W5 (HLY.out.later hb45) (HPK.out.later hb45) hb45.size HOK.out
      obtain ⟨⟨m0, m1, m2⟩, -⟩ := HNB.out.later hb45
      have hbz5 := bel_next hbz hb45
      clear hcr hb4 hb5 hb45 hbz4
      generalize Y.plAt l2 = pl at *
      generalize Y.isAt l2 = is at *
      go_wp2_with fail
      refine hcq.mono ?_
      rintro e W6 ⟨rfl, hb6⟩
      have hbz6 := bel_next hbz5 hb6
      clear hcq hb6 hbz5 m0 m1 m2
      cases is
      · go_wp2
        go_ret
        exact ⟨rfl, hbz6⟩
      · go_wp2
        go_ret
        exact ⟨rfl, hbz6⟩
end Go.Proofs.Ytnfohlabmidliaa
