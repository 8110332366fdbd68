import Derived.Test.YtnfohlabmidliaaGal
import Derived.Test.YtnfohlabmidliaaGam
import Derived.Test.YtnfohlabmidliaaVNodRh
import Derived.Test.YtnfohlabmidliaaVNodRj
import Derived.Test.YtnfohlabmidliaaVNodRk
import Derived.Test.YtnfohlabmidliaaGak
/-
  The law NodeLays: Encode gives the bytes of a node that may be.
-/
namespace Go.Proofs.Ytnfohlabmidliaa
open Go.RowKit
set_option linter.unusedVariables false
set_option linter.unusedSimpArgs false

set_option maxRecDepth 20000 in
set_option maxHeartbeats 4000000 in
theorem nodeLays_walk (w : World) (X : NoT) (hX : LieN w w.heap.size X) :
    Calls Try.prog 4 #[X.agg] w fun e w' => e = .returned (.bool true) ∧ Below w.heap.size w w' := by
  have hb0 := bel_alloc (Below.refl w.heap.size w) (.cells #[.bool X.leaf, .slice X.iA X.iN X.iC, .slice X.kA X.kN X.kC] 25)
  have hL := hX.later hb0
  have hn := NBox.new w (.bool X.leaf) (.slice X.iA X.iN X.iC) (.slice X.kA X.kN X.kC) 25
  have hagX : X.agg = .agg #[.bool X.leaf, .slice X.iA X.iN X.iC, .slice X.kA X.kN X.kC] := rfl
  have HL := Lib.hid hL
  have HN := Lib.hid hn
  have HA := Lib.hid hagX
  rw [hagX]
  clear hX hL hn hagX
  go_enter Try.func4, Try.ntmps4
  go_wp2_with fail
  generalize w.alloc (.cells #[.bool X.leaf, .slice X.iA X.iN X.iC, .slice X.kA X.kN X.kC] 25) = W1 at *
  refine (nwakes_any _).mono ?_
  rintro e W2 ⟨rfl, hb1⟩
  have hb2 := bel_next hb0 hb1
  have hown := nown_any X w.heap.size W2 (HL.out.later (hb1.mono hb0.size)) hb2.size
  obtain ⟨⟨m0, m1, m2⟩, -⟩ := HN.out.later hb1
  rw [HA.out] at hown
  have HN2 := Lib.hid (HN.out.later hb1)
  have HL2 := Lib.hid (HL.out.later (hb1.mono hb0.size))
  have hs02 := hb2.size
  clear hb0 hb1
  go_wp2_with fail
  refine hown.mono ?_
  rintro e W3 ⟨hb3, Y, rfl, hO⟩
  have hb4 := bel_next hb2 hb3
  have hlie := hO.lie
  have HSD := Lib.hid hO.said
  have hb34 := bel_alloc (Below.refl W3.heap.size W3) (.cells #[.bool Y.leaf, .slice Y.iA Y.iN Y.iC, .slice Y.kA Y.kN Y.kC] 25)
  have hnb := NBox.new W3 (.bool Y.leaf) (.slice Y.iA Y.iN Y.iC) (.slice Y.kA Y.kN Y.kC) 25
  have hb5 := bel_next hb4 hb34
  have hb24 := bel_next hb3 hb34
  have hagY : Y.agg = .agg #[.bool Y.leaf, .slice Y.iA Y.iN Y.iC, .slice Y.kA Y.kN Y.kC] := rfl
  have hce := encode_any Y _ _ ((hlie.later hb34).more hb34.size) (Nat.le_refl _)
  rw [hagY] at hce ⊢
  have HAY := Lib.hid hagY
  have HLY4 := Lib.hid ((hlie.later hb34).more hb34.size)
  have HNY := Lib.hid hnb
  obtain ⟨⟨q0, q1, q2⟩, -⟩ := hnb
  clear hown m0 m1 m2 hb2 hb3 hO hb4 hlie hb34 hagY HL HN
  go_wp2_with fail
  generalize W3.alloc (.cells #[.bool Y.leaf, .slice Y.iA Y.iN Y.iC, .slice Y.kA Y.kN Y.kC] 25) = W4 at *
  refine hce.mono ?_
  rintro e Wx ⟨hb6, hh⟩
  have hcr := rRight14_any Y W4.heap.size Wx (HLY4.out.later hb6) hb6.size
  rw [HAY.out] at hcr
  obtain ⟨⟨q0, q1, q2⟩, -⟩ := HNY.out.later hb6
  rcases hh with ⟨hok, rfl⟩ | ⟨hok, A, n, c, rfl, hO⟩
  · rw [hok] at hcr
    clear hce hok
    go_wp2_with fail
    refine hcr.mono ?_
    rintro e W5 ⟨rfl, hb7⟩
    have hbz := bel_next hb5 (bel_next hb6 hb7)
    clear hcr hb5 hb6 hb7 q0 q1 q2 hb24
    go_wp2
    go_ret
    exact ⟨rfl, hbz⟩
  · rw [hok] at hcr
    have HOK := Lib.hid hok
    have HO := Lib.hid hO
    clear hce hok hO
    go_wp2_with fail
    refine hcr.mono ?_
    rintro e W5 ⟨rfl, hb7⟩
    have hb46 := bel_next hb6 hb7
    have hb25 := bel_next hb24 hb46
    have HBZ := Lib.hid (bel_next hb5 hb46)
    have HLY := Lib.hid ((HLY4.out.later hb46).more hb46.size)
    have HBY := Lib.hid (own_ok (p := ⟨A, n, c, Y.enc⟩) (own_later HO.out hb7))
    have hny := HNY.out.later hb46
    have hnx := HN2.out.later hb25
    have hry0 : ∀ W, Below W5.heap.size W5 W → W.cell? ⟨W3.heap.size, 0, none⟩ = some (.bool Y.leaf) := fun W h => (hny.later h).1.1
    have hry1 : ∀ W, Below W5.heap.size W5 W → W.cell? ⟨W3.heap.size, 1, none⟩ = some (.slice Y.iA Y.iN Y.iC) := fun W h => (hny.later h).1.2.1
    have hry2 : ∀ W, Below W5.heap.size W5 W → W.cell? ⟨W3.heap.size, 2, none⟩ = some (.slice Y.kA Y.kN Y.kC) := fun W h => (hny.later h).1.2.2
    have hrx0 : ∀ W, Below W5.heap.size W5 W → W.cell? ⟨w.heap.size, 0, none⟩ = some (.bool X.leaf) := fun W h => (hnx.later h).1.1
    have hrx1 : ∀ W, Below W5.heap.size W5 W → W.cell? ⟨w.heap.size, 1, none⟩ = some (.slice X.iA X.iN X.iC) := fun W h => (hnx.later h).1.2.1
    have hrx2 : ∀ W, Below W5.heap.size W5 W → W.cell? ⟨w.heap.size, 2, none⟩ = some (.slice X.kA X.kN X.kC) := fun W h => (hnx.later h).1.2.2
    have hcO : ∀ W, Below W5.heap.size W5 W → Calls Try.prog 12 #[.agg #[.bool X.leaf, .slice X.iA X.iN X.iC, .slice X.kA X.kN X.kC]] W (OwnP X W) := fun W h => nown_any X w.heap.size W (HL2.out.later ((bel_next hb25 h).mono hs02)) (Nat.le_trans hs02 (bel_next hb25 h).size)
    have hcB : ∀ W, Below W5.heap.size W5 W → Calls Try.prog 23 #[.agg #[.bool Y.leaf, .slice Y.iA Y.iN Y.iC, .slice Y.kA Y.kN Y.kC]] W (GivesBytes 5 Y.enc W) := fun W h => rBytes14_any Y _ W ((HLY.out.later h).more h.size) (Nat.le_refl _) HOK.out
    have HcO := Lib.hid hcO
    have HcB := Lib.hid hcB
    clear hcr hb5 hb6 hb7 hb24 hb46 hb25 hny hnx hcO hcB q0 q1 q2
    go_upto_region 7 with fail
    have hHeld0 : Below W5.heap.size W5 W5.drew := below_drewN (Below.refl _ _) 1
    refine wp_region_held_drew (S := fun W => Below W5.heap.size W5 W) (by kernel_rfl) (below_drewN (Below.refl _ _) 1) (fun hHeld => ?_)
    refine rg_in 0 rfl (by kernel_rfl) (by kernel_rfl) (by kernel_rfl) (by rfl) (v := ?_) (fun _ _ _ h => h) hHeld (fun w hSw => ?_) ?_
    rotate_left
    · (try dsimp only at hSw); go_simp <;> (with_reducible rfl)
    (try simp only [Act.put, List.setIfInBounds_toArray, List.set_cons_zero, List.set_cons_succ])
    refine rg_in 1 rfl (by kernel_rfl) (by kernel_rfl) (by kernel_rfl) (by rfl) (v := ?_) (fun _ _ _ h => h) hHeld (fun w hSw => ?_) ?_
    rotate_left
    · (try dsimp only at hSw); go_simp <;> (with_reducible rfl)
    (try simp only [Act.put, List.setIfInBounds_toArray, List.set_cons_zero, List.set_cons_succ])
    refine rg_in 2 rfl (by kernel_rfl) (by kernel_rfl) (by kernel_rfl) (by rfl) (v := ?_) (fun _ _ _ h => h) hHeld (fun w hSw => ?_) ?_
    rotate_left
    · (try dsimp only at hSw); go_simp <;> (with_reducible rfl)
    (try simp only [Act.put, List.setIfInBounds_toArray, List.set_cons_zero, List.set_cons_succ])
    refine rg_in 3 rfl (by kernel_rfl) (by kernel_rfl) (by kernel_rfl) (by rfl) (v := ?_) (fun _ _ _ h => h) hHeld (fun w hSw => ?_) ?_
    rotate_left
    · (try dsimp only at hSw); go_simp <;> (with_reducible rfl)
    (try simp only [Act.put, List.setIfInBounds_toArray, List.set_cons_zero, List.set_cons_succ])
    refine rg_in 4 rfl (by kernel_rfl) (by kernel_rfl) (by kernel_rfl) (by rfl) (v := ?_) (fun _ _ _ h => h) hHeld (fun w hSw => ?_) ?_
    rotate_left
    · (try dsimp only at hSw); go_simp <;> (with_reducible rfl)
    (try simp only [Act.put, List.setIfInBounds_toArray, List.set_cons_zero, List.set_cons_succ])
    refine rg_do 5 rfl (by kernel_rfl) (by rfl) (fun K hK => ?_)
    go_simp
    (go_at_call 23; (with_reducible refine (HcB.out _ hHeld).mono ?_); (rintro e w105 ⟨Ab, nb, cb, rfl, hOb, hb5⟩))
    refine hK.out _ _ (bel_next hHeld hb5) (fun hHeld => ?_)
    clear hK K
    (try simp only [Act.put, List.setIfInBounds_toArray, List.set_cons_zero, List.set_cons_succ])
    refine rg_do 6 rfl (by kernel_rfl) (by rfl) (fun K hK => ?_)
    have hce := bequal_any A Ab n c nb cb Y.enc Y.enc _ _ w105 (HBY.out.here.below (bel_next hHeld0 hb5)) (Bytes.own hOb) true (sameB_iff2.2 rfl)
    have hb6 := Below.refl w105.heap.size w105
    go_simp
    (go_at_call 19; (with_reducible refine hce.mono ?_); (rintro e w106 ⟨rfl, rfl⟩))
    refine hK.out _ _ hHeld (fun hHeld => ?_)
    clear hK K
    (try simp only [Act.put, List.setIfInBounds_toArray, List.set_cons_zero, List.set_cons_succ])
    refine rg_in 7 rfl (by kernel_rfl) (by kernel_rfl) (by kernel_rfl) (by rfl) (v := ?_) (fun _ _ _ h => h) hHeld (fun w hSw => ?_) ?_
    rotate_left
    · (try dsimp only at hSw); go_simp <;> (with_reducible rfl)
    (try simp only [Act.put, List.setIfInBounds_toArray, List.set_cons_zero, List.set_cons_succ])
    refine rg_in 8 rfl (by kernel_rfl) (by kernel_rfl) (by kernel_rfl) (by rfl) (v := ?_) (fun _ _ _ h => h) hHeld (fun w hSw => ?_) ?_
    rotate_left
    · (try dsimp only at hSw); go_simp <;> (with_reducible rfl)
    (try simp only [Act.put, List.setIfInBounds_toArray, List.set_cons_zero, List.set_cons_succ])
    refine rg_in 9 rfl (by kernel_rfl) (by kernel_rfl) (by kernel_rfl) (by rfl) (v := ?_) (fun _ _ _ h => h) hHeld (fun w hSw => ?_) ?_
    rotate_left
    · (try dsimp only at hSw); go_simp <;> (with_reducible rfl)
    (try simp only [Act.put, List.setIfInBounds_toArray, List.set_cons_zero, List.set_cons_succ])
    refine rg_in 10 rfl (by kernel_rfl) (by kernel_rfl) (by kernel_rfl) (by rfl) (v := ?_) (fun _ _ _ h => h) hHeld (fun w hSw => ?_) ?_
    rotate_left
    · (try dsimp only at hSw); go_simp <;> (with_reducible rfl)
    (try simp only [Act.put, List.setIfInBounds_toArray, List.set_cons_zero, List.set_cons_succ])
    refine rg_do 11 rfl (by kernel_rfl) (by rfl) (fun K hK => ?_)
    go_simp
    (go_at_call 12; (with_reducible refine (HcO.out _ hHeld).mono ?_); (rintro e w111 ⟨hb11, Y2, rfl, hO2⟩))
    have hag2 : Y2.agg = .agg #[.bool Y2.leaf, .slice Y2.iA Y2.iN Y2.iC, .slice Y2.kA Y2.kN Y2.kC] := rfl
    have HAG2 := Lib.hid hag2
    rw [hag2]
    clear hag2
    refine hK.out _ _ (bel_next hHeld hb11) (fun hHeld => ?_)
    clear hK K
    (try simp only [Act.put, List.setIfInBounds_toArray, List.set_cons_zero, List.set_cons_succ])
    refine rg_do 12 rfl (by kernel_rfl) (by rfl) (fun K hK => ?_)
    have hcs := rSame14_any Y Y2 _ w111 ((HLY.out.later hHeld).more hHeld.size) hO2.lie (Nat.le_refl _)
    rw [HAY.out, HAG2.out] at hcs
    go_simp
    (go_at_call 15; (with_reducible refine hcs.mono ?_); (rintro e w112 ⟨z, rfl, hz, hb12⟩))
    obtain rfl : z = true := hz.2 (HSD.out.trans hO2.said.symm)
    refine hK.out _ _ (bel_next hHeld hb12) (fun hHeld => ?_)
    clear hK K
    (try simp only [Act.put, List.setIfInBounds_toArray, List.set_cons_zero, List.set_cons_succ])
    refine rg_in 13 rfl (by kernel_rfl) (by kernel_rfl) (by kernel_rfl) (by rfl) (v := ?_) (fun _ _ _ h => h) hHeld (fun w hSw => ?_) ?_
    rotate_left
    · (try dsimp only at hSw); go_simp <;> (with_reducible rfl)
    (try simp only [Act.put, List.setIfInBounds_toArray, List.set_cons_zero, List.set_cons_succ])
    refine rg_in 14 rfl (by kernel_rfl) (by kernel_rfl) (by kernel_rfl) (by rfl) (v := ?_) (fun _ _ _ h => h) hHeld (fun w hSw => ?_) ?_
    rotate_left
    · (try dsimp only at hSw); go_simp <;> (with_reducible rfl)
    (try simp only [Act.put, List.setIfInBounds_toArray, List.set_cons_zero, List.set_cons_succ])
    refine wpAnyH_done (by kernel_rfl) ?_ _
    have hbz := bel_next HBZ.out hHeld
    clear hHeld
    go_wp2
    go_ret
    exact ⟨rfl, hbz⟩
end Go.Proofs.Ytnfohlabmidliaa
