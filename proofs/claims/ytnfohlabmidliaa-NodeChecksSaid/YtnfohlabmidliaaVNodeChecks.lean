import Derived.Test.YtnfohlabmidliaaGal
import Derived.Test.YtnfohlabmidliaaVNodAd
import Derived.Test.YtnfohlabmidliaaVNodAb
import Derived.Test.YtnfohlabmidliaaVNodRh
import Derived.Test.YtnfohlabmidliaaVNodRk
import Derived.Test.YtnfohlabmidliaaVNodRd
import Derived.Test.YtnfohlabmidliaaVNodRg
/-
  The law NodeChecks: Check, Same, First and Red say of two nodes what the definitions say.
-/
namespace Go.Proofs.Ytnfohlabmidliaa
open Go.RowKit
set_option linter.unusedVariables false
set_option linter.unusedSimpArgs false

/-- What stands behind the copies: the two nodes' variables. -/
def PrR (X : NoT) (w W : World) (gA gB : Nat) : Prop :=
  ∃ Na Nb : NoT, NBox W gA (.bool Na.leaf) (.slice Na.iA Na.iN Na.iC) (.slice Na.kA Na.kN Na.kC) ∧ NBox W gB (.bool Nb.leaf) (.slice Nb.iA Nb.iN Nb.iC) (.slice Nb.kA Nb.kN Nb.kC) ∧ LieN W W.heap.size Na ∧ LieN W W.heap.size Nb ∧ Na.s = X.cut ∧ Below w.heap.size w W
theorem nbox_off3 {W : World} {g j : Nat} {x y z : Value} (h : NBox W g x y z) (hne : g ≠ j) (a b c : Value) : NBox (set3 W j a b c) g x y z := by
  unfold set3
  exact ((h.other hne a).other hne b).other hne c
theorem set3_off {W : World} {g j : Nat} {o : Obj} (h : W.heap[g]? = some o) (hne : g ≠ j) (a b c : Value) : (set3 W j a b c).heap[g]? = some o := by
  unfold set3
  rw [set_othN hne, set_othN hne, set_othN hne]
  exact h
theorem pair_done {W : World} {gA gB Da Db : Nat} {Y Z : NoT} {sa sb : NoS} {u0 u1 u2 v0 v1 v2 : Value} (hOa : OwnN sa Y Da W) (hOb : OwnN sb Z Db W) (hA : W.heap[gA]? = some (.cells #[u0, u1, u2] 25 (0, 0))) (hB : W.heap[gB]? = some (.cells #[v0, v1, v2] 25 (0, 0))) (hne : gA ≠ gB) :
    NBox (set3 (set3 W gA (.bool Y.leaf) (.slice Y.iA Y.iN Y.iC) (.slice Y.kA Y.kN Y.kC)) gB (.bool Z.leaf) (.slice Z.iA Z.iN Z.iC) (.slice Z.kA Z.kN Z.kC)) gA (.bool Y.leaf) (.slice Y.iA Y.iN Y.iC) (.slice Y.kA Y.kN Y.kC) ∧
    NBox (set3 (set3 W gA (.bool Y.leaf) (.slice Y.iA Y.iN Y.iC) (.slice Y.kA Y.kN Y.kC)) gB (.bool Z.leaf) (.slice Z.iA Z.iN Z.iC) (.slice Z.kA Z.kN Z.kC)) gB (.bool Z.leaf) (.slice Z.iA Z.iN Z.iC) (.slice Z.kA Z.kN Z.kC) ∧
    LieN (set3 (set3 W gA (.bool Y.leaf) (.slice Y.iA Y.iN Y.iC) (.slice Y.kA Y.kN Y.kC)) gB (.bool Z.leaf) (.slice Z.iA Z.iN Z.iC) (.slice Z.kA Z.kN Z.kC)) (set3 (set3 W gA (.bool Y.leaf) (.slice Y.iA Y.iN Y.iC) (.slice Y.kA Y.kN Y.kC)) gB (.bool Z.leaf) (.slice Z.iA Z.iN Z.iC) (.slice Z.kA Z.kN Z.kC)).heap.size Y ∧
    LieN (set3 (set3 W gA (.bool Y.leaf) (.slice Y.iA Y.iN Y.iC) (.slice Y.kA Y.kN Y.kC)) gB (.bool Z.leaf) (.slice Z.iA Z.iN Z.iC) (.slice Z.kA Z.kN Z.kC)) (set3 (set3 W gA (.bool Y.leaf) (.slice Y.iA Y.iN Y.iC) (.slice Y.kA Y.kN Y.kC)) gB (.bool Z.leaf) (.slice Z.iA Z.iN Z.iC) (.slice Z.kA Z.kN Z.kC)).heap.size Z := by
  have hB1 := set3_off hB (Ne.symm hne) (.bool Y.leaf) (.slice Y.iA Y.iN Y.iC) (.slice Y.kA Y.kN Y.kC)
  have a1 := (nbox_blk hA).set3 (.bool Y.leaf) (.slice Y.iA Y.iN Y.iC) (.slice Y.kA Y.kN Y.kC)
  have a2 := nbox_off3 a1 hne (.bool Z.leaf) (.slice Z.iA Z.iN Z.iC) (.slice Z.kA Z.kN Z.kC)
  have b1 := (nbox_blk hB1).set3 (.bool Z.leaf) (.slice Z.iA Z.iN Z.iC) (.slice Z.kA Z.kN Z.kC)
  have y1 := hOa.set3 hA (.bool Y.leaf) (.slice Y.iA Y.iN Y.iC) (.slice Y.kA Y.kN Y.kC)
  have y2 := y1.set3 hB1 (.bool Z.leaf) (.slice Z.iA Z.iN Z.iC) (.slice Z.kA Z.kN Z.kC)
  have z1 := hOb.set3 hA (.bool Y.leaf) (.slice Y.iA Y.iN Y.iC) (.slice Y.kA Y.kN Y.kC)
  have z2 := z1.set3 hB1 (.bool Z.leaf) (.slice Z.iA Z.iN Z.iC) (.slice Z.kA Z.kN Z.kC)
  exact ⟨a2, b1, y2.lie, z2.lie⟩
theorem enc_inj {w : World} {B : Nat} {X Y : NoT} (hX : LieN w B X) (hY : LieN w B Y) (h1 : X.okB = true) (h2 : Y.okB = true) (he : X.enc = Y.enc) : X.s = Y.s := by
  have a := enc_read hX h1 []
  have b := enc_read hY h2 []
  rw [List.append_nil, if_pos rfl] at a b
  rw [he] at a
  exact Option.some.inj (a.symm.trans b)
theorem same_iff {w : World} {B : Nat} {X Y : NoT} (hX : LieN w B X) (hY : LieN w B Y) : sameN X Y = true ↔ (X.okB = true ∧ Y.okB = true ∧ X.s = Y.s) := by
  unfold sameN
  simp only [Bool.and_eq_true, sameB_iff2]
  constructor
  · rintro ⟨h1, h2, h3⟩
    exact ⟨h1, h2, enc_inj hX hY h1 h2 h3⟩
  · rintro ⟨h1, h2, h3⟩
    exact ⟨h1, h2, enc_s h3⟩
theorem same_turn {w : World} {B : Nat} {X Y : NoT} (hX : LieN w B X) (hY : LieN w B Y) : sameN Y X = sameN X Y := by
  rw [Bool.eq_iff_iff, same_iff hX hY, same_iff hY hX]
  exact ⟨fun ⟨a, b, c⟩ => ⟨b, a, c.symm⟩, fun ⟨a, b, c⟩ => ⟨b, a, c.symm⟩⟩
theorem same_own {X Y : NoT} (h : Y.s = X.s) (hX : X.lens) (hY : Y.lens) : sameN X Y = X.okB := by
  unfold sameN
  rw [okB_s hY hX h, enc_s h, show sameB X.enc X.enc = true from sameB_iff2.2 rfl, Bool.and_true, Bool.and_self]
theorem fst_ok {w : World} {B : Nat} {X : NoT} (hX : LieN w B X) (hok : X.okB = true) : X.fst.Ok w B := by
  have hl := (shape_len hX (okB_parts hok).1).2
  have h := ents_ok hX
  unfold NoT.fst
  cases he : X.ents with
  | nil => rw [he] at hl; simp at hl
  | cons x L =>
    rw [he] at h
    exact (h x List.mem_cons_self).key
set_option maxRecDepth 20000 in
set_option maxHeartbeats 8000000 in
theorem nodeChecks_walk (w : World) (X1 : NoT) (hX1 : LieN w w.heap.size X1) (X2 : NoT) (hX2 : LieN w w.heap.size X2) :
    Calls Try.prog 3 #[X1.agg, X2.agg] w fun e w' => e = .returned (.bool true) ∧ Below w.heap.size w w' := by
  obtain ⟨iN', hiN, hzN⟩ := nnode_info
  have hb00 := bel_alloc (Below.refl w.heap.size w) (.cells #[.bool X1.leaf, .slice X1.iA X1.iN X1.iC, .slice X1.kA X1.kN X1.kC] 25)
  have hb0 := bel_alloc hb00 (.cells #[.bool X2.leaf, .slice X2.iA X2.iN X2.iC, .slice X2.kA X2.kN X2.kC] 25)
  have hn1 := (NBox.new w (.bool X1.leaf) (.slice X1.iA X1.iN X1.iC) (.slice X1.kA X1.kN X1.kC) 25).later (bel_alloc (Below.refl _ _) (.cells #[.bool X2.leaf, .slice X2.iA X2.iN X2.iC, .slice X2.kA X2.kN X2.kC] 25))
  have hn2 := NBox.new (w.alloc (.cells #[.bool X1.leaf, .slice X1.iA X1.iN X1.iC, .slice X1.kA X1.kN X1.kC] 25)) (.bool X2.leaf) (.slice X2.iA X2.iN X2.iC) (.slice X2.kA X2.kN X2.kC) 25
  rw [World.size_alloc] at hn2
  have hag1 : X1.agg = .agg #[.bool X1.leaf, .slice X1.iA X1.iN X1.iC, .slice X1.kA X1.kN X1.kC] := rfl
  have hag2 : X2.agg = .agg #[.bool X2.leaf, .slice X2.iA X2.iN X2.iC, .slice X2.kA X2.kN X2.kC] := rfl
  have HL1 := Lib.hid (hX1.later hb0)
  have HL2 := Lib.hid (hX2.later hb0)
  have HN1 := Lib.hid hn1
  have HN2 := Lib.hid hn2
  rw [hag1, hag2]
  clear hX1 hX2 hn1 hn2 hag1 hag2 hb00
  go_enter Try.func3, Try.ntmps3
  go_wp2_with fail
  generalize (w.alloc (.cells #[.bool X1.leaf, .slice X1.iA X1.iN X1.iC, .slice X1.kA X1.kN X1.kC] 25)).alloc (.cells #[.bool X2.leaf, .slice X2.iA X2.iN X2.iC, .slice X2.kA X2.kN X2.kC] 25) = W1 at *
  refine (nwakes_any _).mono ?_
  rintro e W2 ⟨rfl, hb1⟩
  have hb2 := bel_next hb0 hb1
  have HBZ := Lib.hid hb2
  have hcA : ∀ W, Below W2.heap.size W2 W → Calls Try.prog 12 #[.agg #[.bool X1.leaf, .slice X1.iA X1.iN X1.iC, .slice X1.kA X1.kN X1.kC]] W (OwnP X1 W) := fun W h => nown_any X1 w.heap.size W (HL1.out.later ((hb1.mono hb0.size).trans (h.mono hb2.size))) (Nat.le_trans hb2.size h.size)
  have hcB : ∀ W, Below W2.heap.size W2 W → Calls Try.prog 12 #[.agg #[.bool X2.leaf, .slice X2.iA X2.iN X2.iC, .slice X2.kA X2.kN X2.kC]] W (OwnP X2 W) := fun W h => nown_any X2 w.heap.size W (HL2.out.later ((hb1.mono hb0.size).trans (h.mono hb2.size))) (Nat.le_trans hb2.size h.size)
  have HcA := Lib.hid hcA
  have HcB := Lib.hid hcB
  have hx1 := HN1.out.later hb1
  have hx2 := HN2.out.later hb1
  have hpx0 : ∀ W, Below W2.heap.size W2 W → W.cell? ⟨w.heap.size, 0, none⟩ = some (.bool X1.leaf) := fun W h => (hx1.later h).1.1
  have hpx1 : ∀ W, Below W2.heap.size W2 W → W.cell? ⟨w.heap.size, 1, none⟩ = some (.slice X1.iA X1.iN X1.iC) := fun W h => (hx1.later h).1.2.1
  have hpx2 : ∀ W, Below W2.heap.size W2 W → W.cell? ⟨w.heap.size, 2, none⟩ = some (.slice X1.kA X1.kN X1.kC) := fun W h => (hx1.later h).1.2.2
  have hqx0 : ∀ W, Below W2.heap.size W2 W → W.cell? ⟨w.heap.size + 1, 0, none⟩ = some (.bool X2.leaf) := fun W h => (hx2.later h).1.1
  have hqx1 : ∀ W, Below W2.heap.size W2 W → W.cell? ⟨w.heap.size + 1, 1, none⟩ = some (.slice X2.iA X2.iN X2.iC) := fun W h => (hx2.later h).1.2.1
  have hqx2 : ∀ W, Below W2.heap.size W2 W → W.cell? ⟨w.heap.size + 1, 2, none⟩ = some (.slice X2.kA X2.kN X2.kC) := fun W h => (hx2.later h).1.2.2
  have HX1 := Lib.hid hx1
  clear hb0 hb1 hcA hcB hx1 hx2 hb2 HN1 HN2 HL1 HL2
  go_upto_region 3 with fail
  go_cut [5, 6] (fun s k wx => ∃ (gA gB : Nat), s = .pointer (some ⟨gA, 0, none⟩) ∧ k = .pointer (some ⟨gB, 0, none⟩) ∧ PrR X1 w wx gA gB ∧ Below W2.heap.size W2 wx)
  case first =>
    refine wp_region_held_drew (S := fun W => Below W2.heap.size W2 W) (by kernel_rfl) (below_drewN (Below.refl _ _) 1) (fun hHeld => ?_)
    refine rg_in 0 rfl (by kernel_rfl) (by kernel_rfl) (by kernel_rfl) (by rfl) (v := ?_) (fun _ _ _ h => h) hHeld (fun w hSw => ?_) ?_
    rotate_left
    · (try dsimp only at hSw); go_simp <;> (with_reducible rfl)
    (try simp only [Act.put, List.setIfInBounds_toArray, List.set_cons_zero, List.set_cons_succ])
    refine rg_in 2 rfl (by kernel_rfl) (by kernel_rfl) (by kernel_rfl) (by rfl) (v := ?_) (fun _ _ _ h => h) hHeld (fun w hSw => ?_) ?_
    rotate_left
    · (try dsimp only at hSw); go_simp <;> (with_reducible rfl)
    (try simp only [Act.put, List.setIfInBounds_toArray, List.set_cons_zero, List.set_cons_succ])
    refine wpAnyH_ready (rs := [1, 4, 5]) (by kernel_rfl) (by simp) ?_
    refine rg_cons rfl (by rfl) (fun K hK => ?_) ?_
    · go_simp
      (go_at_call 12; (with_reducible refine (HcA.out _ hHeld).mono ?_); (rintro e w101 ⟨hbs, Na, rfl, hOa⟩))
      have hag : Na.agg = .agg #[.bool Na.leaf, .slice Na.iA Na.iN Na.iC, .slice Na.kA Na.kN Na.kC] := rfl
      rw [hag]
      clear hag
  
      have hHx := bel_next hHeld hbs
      refine hK.out _ _ hHx (fun hHeld => ?_)
      clear hK K
      (try simp only [Act.put, List.setIfInBounds_toArray, List.set_cons_zero, List.set_cons_succ])
      refine wpAnyH_ready (rs := [3, 4, 5]) (by kernel_rfl) (by simp) ?_
      refine rg_cons rfl (by rfl) (fun K hK => ?_) ?_
      · go_simp
        (go_at_call 12; (with_reducible refine (HcB.out _ hHeld).mono ?_); (rintro e w103 ⟨hbs, Nb, rfl, hOb⟩))
        have hag : Nb.agg = .agg #[.bool Nb.leaf, .slice Nb.iA Nb.iN Nb.iC, .slice Nb.kA Nb.kN Nb.kC] := rfl
        rw [hag]
        clear hag
        have hOa := hOa.later hbs
        have hHx := bel_next hHeld hbs
        refine hK.out _ _ hHx (fun hHeld => ?_)
        clear hK K
        (try simp only [Act.put, List.setIfInBounds_toArray, List.set_cons_zero, List.set_cons_succ])
        refine wpAnyH_ready (rs := [4, 5]) (by kernel_rfl) (by simp) ?_
        refine rg_cons rfl (by rfl) (fun K hK => ?_) ?_
        · have hgw := hHeld.size
          refine step_alloc 25 rfl iN' _ hiN hzN ?_
          intro gA w104 hge hbx hbs
          have hOa := hOa.later hbs
          have hOb := hOb.later hbs
          simp only [Value.cells] at hbx
          have hxA := hbx
          have hHx := bel_next hHeld hbs
          have hggA := Nat.le_trans hgw hge
          refine hK.out _ _ hHx (fun hHeld => ?_)
          clear hK K
          (try simp only [Act.put, List.setIfInBounds_toArray, List.set_cons_zero, List.set_cons_succ])
          refine rg_do 5 rfl (by kernel_rfl) (by rfl) (fun K hK => ?_)
          have hgw := hHeld.size
          refine step_alloc 25 rfl iN' _ hiN hzN ?_
          intro gB w105 hge hbx hbs
          have hltgA := Nat.lt_of_lt_of_le (blk_lt hxA) hge
          have hOa := hOa.later hbs
          have hOb := hOb.later hbs
          have hxA := blk_later hxA hbs
          simp only [Value.cells] at hbx
          have hxB := hbx
          have hHx := bel_next hHeld hbs
          have hggB := Nat.le_trans hgw hge
          refine hK.out _ _ hHx (fun hHeld => ?_)
          clear hK K
          (try simp only [Act.put, List.setIfInBounds_toArray, List.set_cons_zero, List.set_cons_succ])
          refine rg_do 6 rfl (by kernel_rfl) (by rfl) (fun K hK => ?_)
          have hne : gA ≠ gB := by omega
          have hne2 : gB ≠ gA := by omega
          obtain ⟨⟨na0, na1, na2⟩, ea0, ea1, ea2⟩ := nbox_blk hxA
          obtain ⟨⟨nb0, nb1, nb2⟩, eb0, eb1, eb2⟩ := nbox_blk hxB
          have HOa := Lib.hid hOa
          have HOb := Lib.hid hOb
          have HxA := Lib.hid hxA
          have HxB := Lib.hid hxB
          go_simp
          refine hK.out _ _ (set3_below hHeld hggA _ _ _) (fun hHeld => ?_)
          clear hK K
          (try simp only [Act.put, List.setIfInBounds_toArray, List.set_cons_zero, List.set_cons_succ])
          refine rg_do 7 rfl (by kernel_rfl) (by rfl) (fun K hK => ?_)
          go_simp
          refine hK.out _ _ (set3_below hHeld hggB _ _ _) (fun hHeld => ?_)
          clear hK K
          (try simp only [Act.put, List.setIfInBounds_toArray, List.set_cons_zero, List.set_cons_succ])
          refine wpAnyH_done (by kernel_rfl) ?_ _
          have hm := pair_done HOa.out HOb.out HxA.out HxB.out hne
          have HM : PrR X1 w _ gA gB := ⟨Na, Nb, hm.1, hm.2.1, hm.2.2.1, hm.2.2.2, HOa.out.said, HBZ.out.trans (hHeld.mono HBZ.out.size)⟩
          unfold set3 at HM
          have HM := Lib.hid HM
          have HB2 := Lib.hid hHeld
          clear hm hHeld hOa hOb hxA hxB na0 na1 na2 ea0 ea1 ea2 nb0 nb1 nb2 eb0 eb1 eb2 HOa HOb HxA HxB
          go_wp2_with fail
          go_meet
          case rel => exact ⟨gA, gB, rfl, rfl, HM.out, HB2.out⟩
        refine rg_cons rfl (by rfl) (fun K hK => ?_) ?_
        · have hgw := hHeld.size
          refine step_alloc 25 rfl iN' _ hiN hzN ?_
          intro gB w105 hge hbx hbs
          have hOa := hOa.later hbs
          have hOb := hOb.later hbs
          simp only [Value.cells] at hbx
          have hxB := hbx
          have hHx := bel_next hHeld hbs
          have hggB := Nat.le_trans hgw hge
          refine hK.out _ _ hHx (fun hHeld => ?_)
          clear hK K
          (try simp only [Act.put, List.setIfInBounds_toArray, List.set_cons_zero, List.set_cons_succ])
          refine rg_do 4 rfl (by kernel_rfl) (by rfl) (fun K hK => ?_)
          have hgw := hHeld.size
          refine step_alloc 25 rfl iN' _ hiN hzN ?_
          intro gA w104 hge hbx hbs
          have hltgB := Nat.lt_of_lt_of_le (blk_lt hxB) hge
          have hOa := hOa.later hbs
          have hOb := hOb.later hbs
          have hxB := blk_later hxB hbs
          simp only [Value.cells] at hbx
          have hxA := hbx
          have hHx := bel_next hHeld hbs
          have hggA := Nat.le_trans hgw hge
          refine hK.out _ _ hHx (fun hHeld => ?_)
          clear hK K
          (try simp only [Act.put, List.setIfInBounds_toArray, List.set_cons_zero, List.set_cons_succ])
          refine rg_do 6 rfl (by kernel_rfl) (by rfl) (fun K hK => ?_)
          have hne : gA ≠ gB := by omega
          have hne2 : gB ≠ gA := by omega
          obtain ⟨⟨na0, na1, na2⟩, ea0, ea1, ea2⟩ := nbox_blk hxA
          obtain ⟨⟨nb0, nb1, nb2⟩, eb0, eb1, eb2⟩ := nbox_blk hxB
          have HOa := Lib.hid hOa
          have HOb := Lib.hid hOb
          have HxA := Lib.hid hxA
          have HxB := Lib.hid hxB
          go_simp
          refine hK.out _ _ (set3_below hHeld hggA _ _ _) (fun hHeld => ?_)
          clear hK K
          (try simp only [Act.put, List.setIfInBounds_toArray, List.set_cons_zero, List.set_cons_succ])
          refine rg_do 7 rfl (by kernel_rfl) (by rfl) (fun K hK => ?_)
          go_simp
          refine hK.out _ _ (set3_below hHeld hggB _ _ _) (fun hHeld => ?_)
          clear hK K
          (try simp only [Act.put, List.setIfInBounds_toArray, List.set_cons_zero, List.set_cons_succ])
          refine wpAnyH_done (by kernel_rfl) ?_ _
          have hm := pair_done HOa.out HOb.out HxA.out HxB.out hne
          have HM : PrR X1 w _ gA gB := ⟨Na, Nb, hm.1, hm.2.1, hm.2.2.1, hm.2.2.2, HOa.out.said, HBZ.out.trans (hHeld.mono HBZ.out.size)⟩
          unfold set3 at HM
          have HM := Lib.hid HM
          have HB2 := Lib.hid hHeld
          clear hm hHeld hOa hOb hxA hxB na0 na1 na2 ea0 ea1 ea2 nb0 nb1 nb2 eb0 eb1 eb2 HOa HOb HxA HxB
          go_wp2_with fail
          go_meet
          case rel => exact ⟨gA, gB, rfl, rfl, HM.out, HB2.out⟩
        exact AllReadyH.nil
      refine rg_cons rfl (by rfl) (fun K hK => ?_) ?_
      · have hgw := hHeld.size
        refine step_alloc 25 rfl iN' _ hiN hzN ?_
        intro gA w104 hge hbx hbs
        have hOa := hOa.later hbs
        simp only [Value.cells] at hbx
        have hxA := hbx
        have hHx := bel_next hHeld hbs
        have hggA := Nat.le_trans hgw hge
        refine hK.out _ _ hHx (fun hHeld => ?_)
        clear hK K
        (try simp only [Act.put, List.setIfInBounds_toArray, List.set_cons_zero, List.set_cons_succ])
        refine wpAnyH_ready (rs := [3, 5]) (by kernel_rfl) (by simp) ?_
        refine rg_cons rfl (by rfl) (fun K hK => ?_) ?_
        · go_simp
          (go_at_call 12; (with_reducible refine (HcB.out _ hHeld).mono ?_); (rintro e w103 ⟨hbs, Nb, rfl, hOb⟩))
          have hag : Nb.agg = .agg #[.bool Nb.leaf, .slice Nb.iA Nb.iN Nb.iC, .slice Nb.kA Nb.kN Nb.kC] := rfl
          rw [hag]
          clear hag
          have hOa := hOa.later hbs
          have hxA := blk_later hxA hbs
          have hHx := bel_next hHeld hbs
          refine hK.out _ _ hHx (fun hHeld => ?_)
          clear hK K
          (try simp only [Act.put, List.setIfInBounds_toArray, List.set_cons_zero, List.set_cons_succ])
          refine rg_do 5 rfl (by kernel_rfl) (by rfl) (fun K hK => ?_)
          have hgw := hHeld.size
          refine step_alloc 25 rfl iN' _ hiN hzN ?_
          intro gB w105 hge hbx hbs
          have hltgA := Nat.lt_of_lt_of_le (blk_lt hxA) hge
          have hOa := hOa.later hbs
          have hOb := hOb.later hbs
          have hxA := blk_later hxA hbs
          simp only [Value.cells] at hbx
          have hxB := hbx
          have hHx := bel_next hHeld hbs
          have hggB := Nat.le_trans hgw hge
          refine hK.out _ _ hHx (fun hHeld => ?_)
          clear hK K
          (try simp only [Act.put, List.setIfInBounds_toArray, List.set_cons_zero, List.set_cons_succ])
          refine rg_do 6 rfl (by kernel_rfl) (by rfl) (fun K hK => ?_)
          have hne : gA ≠ gB := by omega
          have hne2 : gB ≠ gA := by omega
          obtain ⟨⟨na0, na1, na2⟩, ea0, ea1, ea2⟩ := nbox_blk hxA
          obtain ⟨⟨nb0, nb1, nb2⟩, eb0, eb1, eb2⟩ := nbox_blk hxB
          have HOa := Lib.hid hOa
          have HOb := Lib.hid hOb
          have HxA := Lib.hid hxA
          have HxB := Lib.hid hxB
          go_simp
          refine hK.out _ _ (set3_below hHeld hggA _ _ _) (fun hHeld => ?_)
          clear hK K
          (try simp only [Act.put, List.setIfInBounds_toArray, List.set_cons_zero, List.set_cons_succ])
          refine rg_do 7 rfl (by kernel_rfl) (by rfl) (fun K hK => ?_)
          go_simp
          refine hK.out _ _ (set3_below hHeld hggB _ _ _) (fun hHeld => ?_)
          clear hK K
          (try simp only [Act.put, List.setIfInBounds_toArray, List.set_cons_zero, List.set_cons_succ])
          refine wpAnyH_done (by kernel_rfl) ?_ _
          have hm := pair_done HOa.out HOb.out HxA.out HxB.out hne
          have HM : PrR X1 w _ gA gB := ⟨Na, Nb, hm.1, hm.2.1, hm.2.2.1, hm.2.2.2, HOa.out.said, HBZ.out.trans (hHeld.mono HBZ.out.size)⟩
          unfold set3 at HM
          have HM := Lib.hid HM
          have HB2 := Lib.hid hHeld
          clear hm hHeld hOa hOb hxA hxB na0 na1 na2 ea0 ea1 ea2 nb0 nb1 nb2 eb0 eb1 eb2 HOa HOb HxA HxB
          go_wp2_with fail
          go_meet
          case rel => exact ⟨gA, gB, rfl, rfl, HM.out, HB2.out⟩
        refine rg_cons rfl (by rfl) (fun K hK => ?_) ?_
        · have hgw := hHeld.size
          refine step_alloc 25 rfl iN' _ hiN hzN ?_
          intro gB w105 hge hbx hbs
          have hltgA := Nat.lt_of_lt_of_le (blk_lt hxA) hge
          have hOa := hOa.later hbs
          have hxA := blk_later hxA hbs
          simp only [Value.cells] at hbx
          have hxB := hbx
          have hHx := bel_next hHeld hbs
          have hggB := Nat.le_trans hgw hge
          refine hK.out _ _ hHx (fun hHeld => ?_)
          clear hK K
          (try simp only [Act.put, List.setIfInBounds_toArray, List.set_cons_zero, List.set_cons_succ])
          refine rg_do 3 rfl (by kernel_rfl) (by rfl) (fun K hK => ?_)
          go_simp
          (go_at_call 12; (with_reducible refine (HcB.out _ hHeld).mono ?_); (rintro e w103 ⟨hbs, Nb, rfl, hOb⟩))
          have hag : Nb.agg = .agg #[.bool Nb.leaf, .slice Nb.iA Nb.iN Nb.iC, .slice Nb.kA Nb.kN Nb.kC] := rfl
          rw [hag]
          clear hag
          have hOa := hOa.later hbs
          have hxA := blk_later hxA hbs
          have hxB := blk_later hxB hbs
          have hHx := bel_next hHeld hbs
          refine hK.out _ _ hHx (fun hHeld => ?_)
          clear hK K
          (try simp only [Act.put, List.setIfInBounds_toArray, List.set_cons_zero, List.set_cons_succ])
          refine rg_do 6 rfl (by kernel_rfl) (by rfl) (fun K hK => ?_)
          have hne : gA ≠ gB := by omega
          have hne2 : gB ≠ gA := by omega
          obtain ⟨⟨na0, na1, na2⟩, ea0, ea1, ea2⟩ := nbox_blk hxA
          obtain ⟨⟨nb0, nb1, nb2⟩, eb0, eb1, eb2⟩ := nbox_blk hxB
          have HOa := Lib.hid hOa
          have HOb := Lib.hid hOb
          have HxA := Lib.hid hxA
          have HxB := Lib.hid hxB
          go_simp
          refine hK.out _ _ (set3_below hHeld hggA _ _ _) (fun hHeld => ?_)
          clear hK K
          (try simp only [Act.put, List.setIfInBounds_toArray, List.set_cons_zero, List.set_cons_succ])
          refine rg_do 7 rfl (by kernel_rfl) (by rfl) (fun K hK => ?_)
          go_simp
          refine hK.out _ _ (set3_below hHeld hggB _ _ _) (fun hHeld => ?_)
          clear hK K
          (try simp only [Act.put, List.setIfInBounds_toArray, List.set_cons_zero, List.set_cons_succ])
          refine wpAnyH_done (by kernel_rfl) ?_ _
          have hm := pair_done HOa.out HOb.out HxA.out HxB.out hne
          have HM : PrR X1 w _ gA gB := ⟨Na, Nb, hm.1, hm.2.1, hm.2.2.1, hm.2.2.2, HOa.out.said, HBZ.out.trans (hHeld.mono HBZ.out.size)⟩
          unfold set3 at HM
          have HM := Lib.hid HM
          have HB2 := Lib.hid hHeld
          clear hm hHeld hOa hOb hxA hxB na0 na1 na2 ea0 ea1 ea2 nb0 nb1 nb2 eb0 eb1 eb2 HOa HOb HxA HxB
          go_wp2_with fail
          go_meet
          case rel => exact ⟨gA, gB, rfl, rfl, HM.out, HB2.out⟩
        exact AllReadyH.nil
      refine rg_cons rfl (by rfl) (fun K hK => ?_) ?_
      · have hgw := hHeld.size
        refine step_alloc 25 rfl iN' _ hiN hzN ?_
        intro gB w105 hge hbx hbs
        have hOa := hOa.later hbs
        simp only [Value.cells] at hbx
        have hxB := hbx
        have hHx := bel_next hHeld hbs
        have hggB := Nat.le_trans hgw hge
        refine hK.out _ _ hHx (fun hHeld => ?_)
        clear hK K
        (try simp only [Act.put, List.setIfInBounds_toArray, List.set_cons_zero, List.set_cons_succ])
        refine wpAnyH_ready (rs := [3, 4]) (by kernel_rfl) (by simp) ?_
        refine rg_cons rfl (by rfl) (fun K hK => ?_) ?_
        · go_simp
          (go_at_call 12; (with_reducible refine (HcB.out _ hHeld).mono ?_); (rintro e w103 ⟨hbs, Nb, rfl, hOb⟩))
          have hag : Nb.agg = .agg #[.bool Nb.leaf, .slice Nb.iA Nb.iN Nb.iC, .slice Nb.kA Nb.kN Nb.kC] := rfl
          rw [hag]
          clear hag
          have hOa := hOa.later hbs
          have hxB := blk_later hxB hbs
          have hHx := bel_next hHeld hbs
          refine hK.out _ _ hHx (fun hHeld => ?_)
          clear hK K
          (try simp only [Act.put, List.setIfInBounds_toArray, List.set_cons_zero, List.set_cons_succ])
          refine rg_do 4 rfl (by kernel_rfl) (by rfl) (fun K hK => ?_)
          have hgw := hHeld.size
          refine step_alloc 25 rfl iN' _ hiN hzN ?_
          intro gA w104 hge hbx hbs
          have hltgB := Nat.lt_of_lt_of_le (blk_lt hxB) hge
          have hOa := hOa.later hbs
          have hOb := hOb.later hbs
          have hxB := blk_later hxB hbs
          simp only [Value.cells] at hbx
          have hxA := hbx
          have hHx := bel_next hHeld hbs
          have hggA := Nat.le_trans hgw hge
          refine hK.out _ _ hHx (fun hHeld => ?_)
          clear hK K
          (try simp only [Act.put, List.setIfInBounds_toArray, List.set_cons_zero, List.set_cons_succ])
          refine rg_do 6 rfl (by kernel_rfl) (by rfl) (fun K hK => ?_)
          have hne : gA ≠ gB := by omega
          have hne2 : gB ≠ gA := by omega
          obtain ⟨⟨na0, na1, na2⟩, ea0, ea1, ea2⟩ := nbox_blk hxA
          obtain ⟨⟨nb0, nb1, nb2⟩, eb0, eb1, eb2⟩ := nbox_blk hxB
          have HOa := Lib.hid hOa
          have HOb := Lib.hid hOb
          have HxA := Lib.hid hxA
          have HxB := Lib.hid hxB
          go_simp
          refine hK.out _ _ (set3_below hHeld hggA _ _ _) (fun hHeld => ?_)
          clear hK K
          (try simp only [Act.put, List.setIfInBounds_toArray, List.set_cons_zero, List.set_cons_succ])
          refine rg_do 7 rfl (by kernel_rfl) (by rfl) (fun K hK => ?_)
          go_simp
          refine hK.out _ _ (set3_below hHeld hggB _ _ _) (fun hHeld => ?_)
          clear hK K
          (try simp only [Act.put, List.setIfInBounds_toArray, List.set_cons_zero, List.set_cons_succ])
          refine wpAnyH_done (by kernel_rfl) ?_ _
          have hm := pair_done HOa.out HOb.out HxA.out HxB.out hne
          have HM : PrR X1 w _ gA gB := ⟨Na, Nb, hm.1, hm.2.1, hm.2.2.1, hm.2.2.2, HOa.out.said, HBZ.out.trans (hHeld.mono HBZ.out.size)⟩
          unfold set3 at HM
          have HM := Lib.hid HM
          have HB2 := Lib.hid hHeld
          clear hm hHeld hOa hOb hxA hxB na0 na1 na2 ea0 ea1 ea2 nb0 nb1 nb2 eb0 eb1 eb2 HOa HOb HxA HxB
          go_wp2_with fail
          go_meet
          case rel => exact ⟨gA, gB, rfl, rfl, HM.out, HB2.out⟩
        refine rg_cons rfl (by rfl) (fun K hK => ?_) ?_
        · have hgw := hHeld.size
          refine step_alloc 25 rfl iN' _ hiN hzN ?_
          intro gA w104 hge hbx hbs
          have hltgB := Nat.lt_of_lt_of_le (blk_lt hxB) hge
          have hOa := hOa.later hbs
          have hxB := blk_later hxB hbs
          simp only [Value.cells] at hbx
          have hxA := hbx
          have hHx := bel_next hHeld hbs
          have hggA := Nat.le_trans hgw hge
          refine hK.out _ _ hHx (fun hHeld => ?_)
          clear hK K
          (try simp only [Act.put, List.setIfInBounds_toArray, List.set_cons_zero, List.set_cons_succ])
          refine rg_do 3 rfl (by kernel_rfl) (by rfl) (fun K hK => ?_)
          go_simp
          (go_at_call 12; (with_reducible refine (HcB.out _ hHeld).mono ?_); (rintro e w103 ⟨hbs, Nb, rfl, hOb⟩))
          have hag : Nb.agg = .agg #[.bool Nb.leaf, .slice Nb.iA Nb.iN Nb.iC, .slice Nb.kA Nb.kN Nb.kC] := rfl
          rw [hag]
          clear hag
          have hOa := hOa.later hbs
          have hxA := blk_later hxA hbs
          have hxB := blk_later hxB hbs
          have hHx := bel_next hHeld hbs
          refine hK.out _ _ hHx (fun hHeld => ?_)
          clear hK K
          (try simp only [Act.put, List.setIfInBounds_toArray, List.set_cons_zero, List.set_cons_succ])
          refine rg_do 6 rfl (by kernel_rfl) (by rfl) (fun K hK => ?_)
          have hne : gA ≠ gB := by omega
          have hne2 : gB ≠ gA := by omega
          obtain ⟨⟨na0, na1, na2⟩, ea0, ea1, ea2⟩ := nbox_blk hxA
          obtain ⟨⟨nb0, nb1, nb2⟩, eb0, eb1, eb2⟩ := nbox_blk hxB
          have HOa := Lib.hid hOa
          have HOb := Lib.hid hOb
          have HxA := Lib.hid hxA
          have HxB := Lib.hid hxB
          go_simp
          refine hK.out _ _ (set3_below hHeld hggA _ _ _) (fun hHeld => ?_)
          clear hK K
          (try simp only [Act.put, List.setIfInBounds_toArray, List.set_cons_zero, List.set_cons_succ])
          refine rg_do 7 rfl (by kernel_rfl) (by rfl) (fun K hK => ?_)
          go_simp
          refine hK.out _ _ (set3_below hHeld hggB _ _ _) (fun hHeld => ?_)
          clear hK K
          (try simp only [Act.put, List.setIfInBounds_toArray, List.set_cons_zero, List.set_cons_succ])
          refine wpAnyH_done (by kernel_rfl) ?_ _
          have hm := pair_done HOa.out HOb.out HxA.out HxB.out hne
          have HM : PrR X1 w _ gA gB := ⟨Na, Nb, hm.1, hm.2.1, hm.2.2.1, hm.2.2.2, HOa.out.said, HBZ.out.trans (hHeld.mono HBZ.out.size)⟩
          unfold set3 at HM
          have HM := Lib.hid HM
          have HB2 := Lib.hid hHeld
          clear hm hHeld hOa hOb hxA hxB na0 na1 na2 ea0 ea1 ea2 nb0 nb1 nb2 eb0 eb1 eb2 HOa HOb HxA HxB
          go_wp2_with fail
          go_meet
          case rel => exact ⟨gA, gB, rfl, rfl, HM.out, HB2.out⟩
        exact AllReadyH.nil
      exact AllReadyH.nil
    refine rg_cons rfl (by rfl) (fun K hK => ?_) ?_
    · have hgw := hHeld.size
      refine step_alloc 25 rfl iN' _ hiN hzN ?_
      intro gA w104 hge hbx hbs
      simp only [Value.cells] at hbx
      have hxA := hbx
      have hHx := bel_next hHeld hbs
      have hggA := Nat.le_trans hgw hge
      refine hK.out _ _ hHx (fun hHeld => ?_)
      clear hK K
      (try simp only [Act.put, List.setIfInBounds_toArray, List.set_cons_zero, List.set_cons_succ])
      refine wpAnyH_ready (rs := [1, 5]) (by kernel_rfl) (by simp) ?_
      refine rg_cons rfl (by rfl) (fun K hK => ?_) ?_
      · go_simp
        (go_at_call 12; (with_reducible refine (HcA.out _ hHeld).mono ?_); (rintro e w101 ⟨hbs, Na, rfl, hOa⟩))
        have hag : Na.agg = .agg #[.bool Na.leaf, .slice Na.iA Na.iN Na.iC, .slice Na.kA Na.kN Na.kC] := rfl
        rw [hag]
        clear hag
        have hxA := blk_later hxA hbs
        have hHx := bel_next hHeld hbs
        refine hK.out _ _ hHx (fun hHeld => ?_)
        clear hK K
        (try simp only [Act.put, List.setIfInBounds_toArray, List.set_cons_zero, List.set_cons_succ])
        refine wpAnyH_ready (rs := [3, 5]) (by kernel_rfl) (by simp) ?_
        refine rg_cons rfl (by rfl) (fun K hK => ?_) ?_
        · go_simp
          (go_at_call 12; (with_reducible refine (HcB.out _ hHeld).mono ?_); (rintro e w103 ⟨hbs, Nb, rfl, hOb⟩))
          have hag : Nb.agg = .agg #[.bool Nb.leaf, .slice Nb.iA Nb.iN Nb.iC, .slice Nb.kA Nb.kN Nb.kC] := rfl
          rw [hag]
          clear hag
          have hOa := hOa.later hbs
          have hxA := blk_later hxA hbs
          have hHx := bel_next hHeld hbs
          refine hK.out _ _ hHx (fun hHeld => ?_)
          clear hK K
          (try simp only [Act.put, List.setIfInBounds_toArray, List.set_cons_zero, List.set_cons_succ])
          refine rg_do 5 rfl (by kernel_rfl) (by rfl) (fun K hK => ?_)
          have hgw := hHeld.size
          refine step_alloc 25 rfl iN' _ hiN hzN ?_
          intro gB w105 hge hbx hbs
          have hltgA := Nat.lt_of_lt_of_le (blk_lt hxA) hge
          have hOa := hOa.later hbs
          have hOb := hOb.later hbs
          have hxA := blk_later hxA hbs
          simp only [Value.cells] at hbx
          have hxB := hbx
          have hHx := bel_next hHeld hbs
          have hggB := Nat.le_trans hgw hge
          refine hK.out _ _ hHx (fun hHeld => ?_)
          clear hK K
          (try simp only [Act.put, List.setIfInBounds_toArray, List.set_cons_zero, List.set_cons_succ])
          refine rg_do 6 rfl (by kernel_rfl) (by rfl) (fun K hK => ?_)
          have hne : gA ≠ gB := by omega
          have hne2 : gB ≠ gA := by omega
          obtain ⟨⟨na0, na1, na2⟩, ea0, ea1, ea2⟩ := nbox_blk hxA
          obtain ⟨⟨nb0, nb1, nb2⟩, eb0, eb1, eb2⟩ := nbox_blk hxB
          have HOa := Lib.hid hOa
          have HOb := Lib.hid hOb
          have HxA := Lib.hid hxA
          have HxB := Lib.hid hxB
          go_simp
          refine hK.out _ _ (set3_below hHeld hggA _ _ _) (fun hHeld => ?_)
          clear hK K
          (try simp only [Act.put, List.setIfInBounds_toArray, List.set_cons_zero, List.set_cons_succ])
          refine rg_do 7 rfl (by kernel_rfl) (by rfl) (fun K hK => ?_)
          go_simp
          refine hK.out _ _ (set3_below hHeld hggB _ _ _) (fun hHeld => ?_)
          clear hK K
          (try simp only [Act.put, List.setIfInBounds_toArray, List.set_cons_zero, List.set_cons_succ])
          refine wpAnyH_done (by kernel_rfl) ?_ _
          have hm := pair_done HOa.out HOb.out HxA.out HxB.out hne
          have HM : PrR X1 w _ gA gB := ⟨Na, Nb, hm.1, hm.2.1, hm.2.2.1, hm.2.2.2, HOa.out.said, HBZ.out.trans (hHeld.mono HBZ.out.size)⟩
          unfold set3 at HM
          have HM := Lib.hid HM
          have HB2 := Lib.hid hHeld
          clear hm hHeld hOa hOb hxA hxB na0 na1 na2 ea0 ea1 ea2 nb0 nb1 nb2 eb0 eb1 eb2 HOa HOb HxA HxB
          go_wp2_with fail
          go_meet
          case rel => exact ⟨gA, gB, rfl, rfl, HM.out, HB2.out⟩
        refine rg_cons rfl (by rfl) (fun K hK => ?_) ?_
        · have hgw := hHeld.size
          refine step_alloc 25 rfl iN' _ hiN hzN ?_
          intro gB w105 hge hbx hbs
          have hltgA := Nat.lt_of_lt_of_le (blk_lt hxA) hge
          have hOa := hOa.later hbs
          have hxA := blk_later hxA hbs
          simp only [Value.cells] at hbx
          have hxB := hbx
          have hHx := bel_next hHeld hbs
          have hggB := Nat.le_trans hgw hge
          refine hK.out _ _ hHx (fun hHeld => ?_)
          clear hK K
          (try simp only [Act.put, List.setIfInBounds_toArray, List.set_cons_zero, List.set_cons_succ])
          refine rg_do 3 rfl (by kernel_rfl) (by rfl) (fun K hK => ?_)
          go_simp
          (go_at_call 12; (with_reducible refine (HcB.out _ hHeld).mono ?_); (rintro e w103 ⟨hbs, Nb, rfl, hOb⟩))
          have hag : Nb.agg = .agg #[.bool Nb.leaf, .slice Nb.iA Nb.iN Nb.iC, .slice Nb.kA Nb.kN Nb.kC] := rfl
          rw [hag]
          clear hag
          have hOa := hOa.later hbs
          have hxA := blk_later hxA hbs
          have hxB := blk_later hxB hbs
          have hHx := bel_next hHeld hbs
          refine hK.out _ _ hHx (fun hHeld => ?_)
          clear hK K
          (try simp only [Act.put, List.setIfInBounds_toArray, List.set_cons_zero, List.set_cons_succ])
          refine rg_do 6 rfl (by kernel_rfl) (by rfl) (fun K hK => ?_)
          have hne : gA ≠ gB := by omega
          have hne2 : gB ≠ gA := by omega
          obtain ⟨⟨na0, na1, na2⟩, ea0, ea1, ea2⟩ := nbox_blk hxA
          obtain ⟨⟨nb0, nb1, nb2⟩, eb0, eb1, eb2⟩ := nbox_blk hxB
          have HOa := Lib.hid hOa
          have HOb := Lib.hid hOb
          have HxA := Lib.hid hxA
          have HxB := Lib.hid hxB
          go_simp
          refine hK.out _ _ (set3_below hHeld hggA _ _ _) (fun hHeld => ?_)
          clear hK K
          (try simp only [Act.put, List.setIfInBounds_toArray, List.set_cons_zero, List.set_cons_succ])
          refine rg_do 7 rfl (by kernel_rfl) (by rfl) (fun K hK => ?_)
          go_simp
          refine hK.out _ _ (set3_below hHeld hggB _ _ _) (fun hHeld => ?_)
          clear hK K
          (try simp only [Act.put, List.setIfInBounds_toArray, List.set_cons_zero, List.set_cons_succ])
          refine wpAnyH_done (by kernel_rfl) ?_ _
          have hm := pair_done HOa.out HOb.out HxA.out HxB.out hne
          have HM : PrR X1 w _ gA gB := ⟨Na, Nb, hm.1, hm.2.1, hm.2.2.1, hm.2.2.2, HOa.out.said, HBZ.out.trans (hHeld.mono HBZ.out.size)⟩
          unfold set3 at HM
          have HM := Lib.hid HM
          have HB2 := Lib.hid hHeld
          clear hm hHeld hOa hOb hxA hxB na0 na1 na2 ea0 ea1 ea2 nb0 nb1 nb2 eb0 eb1 eb2 HOa HOb HxA HxB
          go_wp2_with fail
          go_meet
          case rel => exact ⟨gA, gB, rfl, rfl, HM.out, HB2.out⟩
        exact AllReadyH.nil
      refine rg_cons rfl (by rfl) (fun K hK => ?_) ?_
      · have hgw := hHeld.size
        refine step_alloc 25 rfl iN' _ hiN hzN ?_
        intro gB w105 hge hbx hbs
        have hltgA := Nat.lt_of_lt_of_le (blk_lt hxA) hge
        have hxA := blk_later hxA hbs
        simp only [Value.cells] at hbx
        have hxB := hbx
        have hHx := bel_next hHeld hbs
        have hggB := Nat.le_trans hgw hge
        refine hK.out _ _ hHx (fun hHeld => ?_)
        clear hK K
        (try simp only [Act.put, List.setIfInBounds_toArray, List.set_cons_zero, List.set_cons_succ])
        refine rg_do 1 rfl (by kernel_rfl) (by rfl) (fun K hK => ?_)
        go_simp
        (go_at_call 12; (with_reducible refine (HcA.out _ hHeld).mono ?_); (rintro e w101 ⟨hbs, Na, rfl, hOa⟩))
        have hag : Na.agg = .agg #[.bool Na.leaf, .slice Na.iA Na.iN Na.iC, .slice Na.kA Na.kN Na.kC] := rfl
        rw [hag]
        clear hag
        have hxA := blk_later hxA hbs
        have hxB := blk_later hxB hbs
        have hHx := bel_next hHeld hbs
        refine hK.out _ _ hHx (fun hHeld => ?_)
        clear hK K
        (try simp only [Act.put, List.setIfInBounds_toArray, List.set_cons_zero, List.set_cons_succ])
        refine rg_do 3 rfl (by kernel_rfl) (by rfl) (fun K hK => ?_)
        go_simp
        (go_at_call 12; (with_reducible refine (HcB.out _ hHeld).mono ?_); (rintro e w103 ⟨hbs, Nb, rfl, hOb⟩))
        have hag : Nb.agg = .agg #[.bool Nb.leaf, .slice Nb.iA Nb.iN Nb.iC, .slice Nb.kA Nb.kN Nb.kC] := rfl
        rw [hag]
        clear hag
        have hOa := hOa.later hbs
        have hxA := blk_later hxA hbs
        have hxB := blk_later hxB hbs
        have hHx := bel_next hHeld hbs
        refine hK.out _ _ hHx (fun hHeld => ?_)
        clear hK K
        (try simp only [Act.put, List.setIfInBounds_toArray, List.set_cons_zero, List.set_cons_succ])
        refine rg_do 6 rfl (by kernel_rfl) (by rfl) (fun K hK => ?_)
        have hne : gA ≠ gB := by omega
        have hne2 : gB ≠ gA := by omega
        obtain ⟨⟨na0, na1, na2⟩, ea0, ea1, ea2⟩ := nbox_blk hxA
        obtain ⟨⟨nb0, nb1, nb2⟩, eb0, eb1, eb2⟩ := nbox_blk hxB
        have HOa := Lib.hid hOa
        have HOb := Lib.hid hOb
        have HxA := Lib.hid hxA
        have HxB := Lib.hid hxB
        go_simp
        refine hK.out _ _ (set3_below hHeld hggA _ _ _) (fun hHeld => ?_)
        clear hK K
        (try simp only [Act.put, List.setIfInBounds_toArray, List.set_cons_zero, List.set_cons_succ])
        refine rg_do 7 rfl (by kernel_rfl) (by rfl) (fun K hK => ?_)
        go_simp
        refine hK.out _ _ (set3_below hHeld hggB _ _ _) (fun hHeld => ?_)
        clear hK K
        (try simp only [Act.put, List.setIfInBounds_toArray, List.set_cons_zero, List.set_cons_succ])
        refine wpAnyH_done (by kernel_rfl) ?_ _
        have hm := pair_done HOa.out HOb.out HxA.out HxB.out hne
        have HM : PrR X1 w _ gA gB := ⟨Na, Nb, hm.1, hm.2.1, hm.2.2.1, hm.2.2.2, HOa.out.said, HBZ.out.trans (hHeld.mono HBZ.out.size)⟩
        unfold set3 at HM
        have HM := Lib.hid HM
        have HB2 := Lib.hid hHeld
        clear hm hHeld hOa hOb hxA hxB na0 na1 na2 ea0 ea1 ea2 nb0 nb1 nb2 eb0 eb1 eb2 HOa HOb HxA HxB
        go_wp2_with fail
        go_meet
        case rel => exact ⟨gA, gB, rfl, rfl, HM.out, HB2.out⟩
      exact AllReadyH.nil
    refine rg_cons rfl (by rfl) (fun K hK => ?_) ?_
    · have hgw := hHeld.size
      refine step_alloc 25 rfl iN' _ hiN hzN ?_
      intro gB w105 hge hbx hbs
      simp only [Value.cells] at hbx
      have hxB := hbx
      have hHx := bel_next hHeld hbs
      have hggB := Nat.le_trans hgw hge
      refine hK.out _ _ hHx (fun hHeld => ?_)
      clear hK K
      (try simp only [Act.put, List.setIfInBounds_toArray, List.set_cons_zero, List.set_cons_succ])
      refine wpAnyH_ready (rs := [1, 4]) (by kernel_rfl) (by simp) ?_
      refine rg_cons rfl (by rfl) (fun K hK => ?_) ?_
      · go_simp
        (go_at_call 12; (with_reducible refine (HcA.out _ hHeld).mono ?_); (rintro e w101 ⟨hbs, Na, rfl, hOa⟩))
        have hag : Na.agg = .agg #[.bool Na.leaf, .slice Na.iA Na.iN Na.iC, .slice Na.kA Na.kN Na.kC] := rfl
        rw [hag]
        clear hag
        have hxB := blk_later hxB hbs
        have hHx := bel_next hHeld hbs
        refine hK.out _ _ hHx (fun hHeld => ?_)
        clear hK K
        (try simp only [Act.put, List.setIfInBounds_toArray, List.set_cons_zero, List.set_cons_succ])
        refine wpAnyH_ready (rs := [3, 4]) (by kernel_rfl) (by simp) ?_
        refine rg_cons rfl (by rfl) (fun K hK => ?_) ?_
        · go_simp
          (go_at_call 12; (with_reducible refine (HcB.out _ hHeld).mono ?_); (rintro e w103 ⟨hbs, Nb, rfl, hOb⟩))
          have hag : Nb.agg = .agg #[.bool Nb.leaf, .slice Nb.iA Nb.iN Nb.iC, .slice Nb.kA Nb.kN Nb.kC] := rfl
          rw [hag]
          clear hag
          have hOa := hOa.later hbs
          have hxB := blk_later hxB hbs
          have hHx := bel_next hHeld hbs
          refine hK.out _ _ hHx (fun hHeld => ?_)
          clear hK K
          (try simp only [Act.put, List.setIfInBounds_toArray, List.set_cons_zero, List.set_cons_succ])
          refine rg_do 4 rfl (by kernel_rfl) (by rfl) (fun K hK => ?_)
          have hgw := hHeld.size
          refine step_alloc 25 rfl iN' _ hiN hzN ?_
          intro gA w104 hge hbx hbs
          have hltgB := Nat.lt_of_lt_of_le (blk_lt hxB) hge
          have hOa := hOa.later hbs
          have hOb := hOb.later hbs
          have hxB := blk_later hxB hbs
          simp only [Value.cells] at hbx
          have hxA := hbx
          have hHx := bel_next hHeld hbs
          have hggA := Nat.le_trans hgw hge
          refine hK.out _ _ hHx (fun hHeld => ?_)
          clear hK K
          (try simp only [Act.put, List.setIfInBounds_toArray, List.set_cons_zero, List.set_cons_succ])
          refine rg_do 6 rfl (by kernel_rfl) (by rfl) (fun K hK => ?_)
          have hne : gA ≠ gB := by omega
          have hne2 : gB ≠ gA := by omega
          obtain ⟨⟨na0, na1, na2⟩, ea0, ea1, ea2⟩ := nbox_blk hxA
          obtain ⟨⟨nb0, nb1, nb2⟩, eb0, eb1, eb2⟩ := nbox_blk hxB
          have HOa := Lib.hid hOa
          have HOb := Lib.hid hOb
          have HxA := Lib.hid hxA
          have HxB := Lib.hid hxB
          go_simp
          refine hK.out _ _ (set3_below hHeld hggA _ _ _) (fun hHeld => ?_)
          clear hK K
          (try simp only [Act.put, List.setIfInBounds_toArray, List.set_cons_zero, List.set_cons_succ])
          refine rg_do 7 rfl (by kernel_rfl) (by rfl) (fun K hK => ?_)
          go_simp
          refine hK.out _ _ (set3_below hHeld hggB _ _ _) (fun hHeld => ?_)
          clear hK K
          (try simp only [Act.put, List.setIfInBounds_toArray, List.set_cons_zero, List.set_cons_succ])
          refine wpAnyH_done (by kernel_rfl) ?_ _
          have hm := pair_done HOa.out HOb.out HxA.out HxB.out hne
          have HM : PrR X1 w _ gA gB := ⟨Na, Nb, hm.1, hm.2.1, hm.2.2.1, hm.2.2.2, HOa.out.said, HBZ.out.trans (hHeld.mono HBZ.out.size)⟩
          unfold set3 at HM
          have HM := Lib.hid HM
          have HB2 := Lib.hid hHeld
          clear hm hHeld hOa hOb hxA hxB na0 na1 na2 ea0 ea1 ea2 nb0 nb1 nb2 eb0 eb1 eb2 HOa HOb HxA HxB
          go_wp2_with fail
          go_meet
          case rel => exact ⟨gA, gB, rfl, rfl, HM.out, HB2.out⟩
        refine rg_cons rfl (by rfl) (fun K hK => ?_) ?_
        · have hgw := hHeld.size
          refine step_alloc 25 rfl iN' _ hiN hzN ?_
          intro gA w104 hge hbx hbs
          have hltgB := Nat.lt_of_lt_of_le (blk_lt hxB) hge
          have hOa := hOa.later hbs
          have hxB := blk_later hxB hbs
          simp only [Value.cells] at hbx
          have hxA := hbx
          have hHx := bel_next hHeld hbs
          have hggA := Nat.le_trans hgw hge
          refine hK.out _ _ hHx (fun hHeld => ?_)
          clear hK K
          (try simp only [Act.put, List.setIfInBounds_toArray, List.set_cons_zero, List.set_cons_succ])
          refine rg_do 3 rfl (by kernel_rfl) (by rfl) (fun K hK => ?_)
          go_simp
          (go_at_call 12; (with_reducible refine (HcB.out _ hHeld).mono ?_); (rintro e w103 ⟨hbs, Nb, rfl, hOb⟩))
          have hag : Nb.agg = .agg #[.bool Nb.leaf, .slice Nb.iA Nb.iN Nb.iC, .slice Nb.kA Nb.kN Nb.kC] := rfl
          rw [hag]
          clear hag
          have hOa := hOa.later hbs
          have hxA := blk_later hxA hbs
          have hxB := blk_later hxB hbs
          have hHx := bel_next hHeld hbs
          refine hK.out _ _ hHx (fun hHeld => ?_)
          clear hK K
          (try simp only [Act.put, List.setIfInBounds_toArray, List.set_cons_zero, List.set_cons_succ])
          refine rg_do 6 rfl (by kernel_rfl) (by rfl) (fun K hK => ?_)
          have hne : gA ≠ gB := by omega
          have hne2 : gB ≠ gA := by omega
          obtain ⟨⟨na0, na1, na2⟩, ea0, ea1, ea2⟩ := nbox_blk hxA
          obtain ⟨⟨nb0, nb1, nb2⟩, eb0, eb1, eb2⟩ := nbox_blk hxB
          have HOa := Lib.hid hOa
          have HOb := Lib.hid hOb
          have HxA := Lib.hid hxA
          have HxB := Lib.hid hxB
          go_simp
          refine hK.out _ _ (set3_below hHeld hggA _ _ _) (fun hHeld => ?_)
          clear hK K
          (try simp only [Act.put, List.setIfInBounds_toArray, List.set_cons_zero, List.set_cons_succ])
          refine rg_do 7 rfl (by kernel_rfl) (by rfl) (fun K hK => ?_)
          go_simp
          refine hK.out _ _ (set3_below hHeld hggB _ _ _) (fun hHeld => ?_)
          clear hK K
          (try simp only [Act.put, List.setIfInBounds_toArray, List.set_cons_zero, List.set_cons_succ])
          refine wpAnyH_done (by kernel_rfl) ?_ _
          have hm := pair_done HOa.out HOb.out HxA.out HxB.out hne
          have HM : PrR X1 w _ gA gB := ⟨Na, Nb, hm.1, hm.2.1, hm.2.2.1, hm.2.2.2, HOa.out.said, HBZ.out.trans (hHeld.mono HBZ.out.size)⟩
          unfold set3 at HM
          have HM := Lib.hid HM
          have HB2 := Lib.hid hHeld
          clear hm hHeld hOa hOb hxA hxB na0 na1 na2 ea0 ea1 ea2 nb0 nb1 nb2 eb0 eb1 eb2 HOa HOb HxA HxB
          go_wp2_with fail
          go_meet
          case rel => exact ⟨gA, gB, rfl, rfl, HM.out, HB2.out⟩
        exact AllReadyH.nil
      refine rg_cons rfl (by rfl) (fun K hK => ?_) ?_
      · have hgw := hHeld.size
        refine step_alloc 25 rfl iN' _ hiN hzN ?_
        intro gA w104 hge hbx hbs
        have hltgB := Nat.lt_of_lt_of_le (blk_lt hxB) hge
        have hxB := blk_later hxB hbs
        simp only [Value.cells] at hbx
        have hxA := hbx
        have hHx := bel_next hHeld hbs
        have hggA := Nat.le_trans hgw hge
        refine hK.out _ _ hHx (fun hHeld => ?_)
        clear hK K
        (try simp only [Act.put, List.setIfInBounds_toArray, List.set_cons_zero, List.set_cons_succ])
        refine rg_do 1 rfl (by kernel_rfl) (by rfl) (fun K hK => ?_)
        go_simp
        (go_at_call 12; (with_reducible refine (HcA.out _ hHeld).mono ?_); (rintro e w101 ⟨hbs, Na, rfl, hOa⟩))
        have hag : Na.agg = .agg #[.bool Na.leaf, .slice Na.iA Na.iN Na.iC, .slice Na.kA Na.kN Na.kC] := rfl
        rw [hag]
        clear hag
        have hxA := blk_later hxA hbs
        have hxB := blk_later hxB hbs
        have hHx := bel_next hHeld hbs
        refine hK.out _ _ hHx (fun hHeld => ?_)
        clear hK K
        (try simp only [Act.put, List.setIfInBounds_toArray, List.set_cons_zero, List.set_cons_succ])
        refine rg_do 3 rfl (by kernel_rfl) (by rfl) (fun K hK => ?_)
        go_simp
        (go_at_call 12; (with_reducible refine (HcB.out _ hHeld).mono ?_); (rintro e w103 ⟨hbs, Nb, rfl, hOb⟩))
        have hag : Nb.agg = .agg #[.bool Nb.leaf, .slice Nb.iA Nb.iN Nb.iC, .slice Nb.kA Nb.kN Nb.kC] := rfl
        rw [hag]
        clear hag
        have hOa := hOa.later hbs
        have hxA := blk_later hxA hbs
        have hxB := blk_later hxB hbs
        have hHx := bel_next hHeld hbs
        refine hK.out _ _ hHx (fun hHeld => ?_)
        clear hK K
        (try simp only [Act.put, List.setIfInBounds_toArray, List.set_cons_zero, List.set_cons_succ])
        refine rg_do 6 rfl (by kernel_rfl) (by rfl) (fun K hK => ?_)
        have hne : gA ≠ gB := by omega
        have hne2 : gB ≠ gA := by omega
        obtain ⟨⟨na0, na1, na2⟩, ea0, ea1, ea2⟩ := nbox_blk hxA
        obtain ⟨⟨nb0, nb1, nb2⟩, eb0, eb1, eb2⟩ := nbox_blk hxB
        have HOa := Lib.hid hOa
        have HOb := Lib.hid hOb
        have HxA := Lib.hid hxA
        have HxB := Lib.hid hxB
        go_simp
        refine hK.out _ _ (set3_below hHeld hggA _ _ _) (fun hHeld => ?_)
        clear hK K
        (try simp only [Act.put, List.setIfInBounds_toArray, List.set_cons_zero, List.set_cons_succ])
        refine rg_do 7 rfl (by kernel_rfl) (by rfl) (fun K hK => ?_)
        go_simp
        refine hK.out _ _ (set3_below hHeld hggB _ _ _) (fun hHeld => ?_)
        clear hK K
        (try simp only [Act.put, List.setIfInBounds_toArray, List.set_cons_zero, List.set_cons_succ])
        refine wpAnyH_done (by kernel_rfl) ?_ _
        have hm := pair_done HOa.out HOb.out HxA.out HxB.out hne
        have HM : PrR X1 w _ gA gB := ⟨Na, Nb, hm.1, hm.2.1, hm.2.2.1, hm.2.2.2, HOa.out.said, HBZ.out.trans (hHeld.mono HBZ.out.size)⟩
        unfold set3 at HM
        have HM := Lib.hid HM
        have HB2 := Lib.hid hHeld
        clear hm hHeld hOa hOb hxA hxB na0 na1 na2 ea0 ea1 ea2 nb0 nb1 nb2 eb0 eb1 eb2 HOa HOb HxA HxB
        go_wp2_with fail
        go_meet
        case rel => exact ⟨gA, gB, rfl, rfl, HM.out, HB2.out⟩
      exact AllReadyH.nil
    exact AllReadyH.nil
  case rest =>
    obtain ⟨gA, gB, rfl, rfl, ⟨Na, Nb, hNA, hNB, hLA, hLB, hsd, hbz⟩, hb23⟩ := hcut
    rename World => W3
    clear hpx0 hpx1 hpx2 hqx0 hqx1 hqx2
    have HNA := Lib.hid hNA
    have HNB := Lib.hid hNB
    have HLA3 := Lib.hid hLA
    have HLB3 := Lib.hid hLB
    have HSD := Lib.hid hsd
    have HcA3 := Lib.hid (fun W (h : Below W3.heap.size W3 W) => HcA.out W (bel_next hb23 h))
    have HX3 := Lib.hid (HX1.out.later hb23)
    have hgA : Na.agg = .agg #[.bool Na.leaf, .slice Na.iA Na.iN Na.iC, .slice Na.kA Na.kN Na.kC] := rfl
    have hgB : Nb.agg = .agg #[.bool Nb.leaf, .slice Nb.iA Nb.iN Nb.iC, .slice Nb.kA Nb.kN Nb.kC] := rfl
    have HGA := Lib.hid hgA
    have HGB := Lib.hid hgB
    obtain ⟨ra, hra⟩ : ∃ b, Na.okB = b := ⟨_, rfl⟩
    obtain ⟨rb, hrb⟩ : ∃ b, Nb.okB = b := ⟨_, rfl⟩
    obtain ⟨sm, hsm⟩ : ∃ b, sameN Na Nb = b := ⟨_, rfl⟩
    have HRA := Lib.hid hra
    have HRB := Lib.hid hrb
    have HS1 := Lib.hid hsm
    have HS2 : Hid (sameN Nb Na = sm) := Lib.hid ((same_turn hLA hLB).trans hsm)
    have HS3 : Hid (∀ N : NoT, N.s = Na.s → N.lens → sameN Na N = ra) := Lib.hid (fun N h hl => (same_own h hLA.lens hl).trans hra)
    have HSM : Hid (sm = true ↔ (ra = true ∧ rb = true ∧ Na.s = Nb.s)) := Lib.hid (by rw [← hsm, ← hra, ← hrb]; exact same_iff hLA hLB)
    have hcr := rRight14_any Na _ W3 hLA (Nat.le_refl _)
    rw [hra, hgA] at hcr
    obtain ⟨⟨m0, m1, m2⟩, -⟩ := hNA
    clear hNB hLA hLB hsd hgA hgB hra hrb hsm HcA HcB HX1 hb23
    go_wp2_with fail
    refine hcr.mono ?_
    rintro e W4 ⟨rfl, hb4⟩
    have hck := check14_any Na _ W4 (HLA3.out.later hb4) hb4.size
    have hck0 : chkN Na = if ra then 0 else 240 := by
      rw [← HRA.out]
      rfl
    rw [hck0, HGA.out] at hck
    obtain ⟨⟨m0, m1, m2⟩, -⟩ := HNA.out.later hb4
    clear hcr hck0
    go_wp2_with fail
    refine hck.mono ?_
    rintro e W5 ⟨rfl, hb5⟩
    have hb35 := bel_next hb4 hb5
    have HLA5 := Lib.hid ((HLA3.out.later hb35).more hb35.size)
    have HLB5 := Lib.hid ((HLB3.out.later hb35).more hb35.size)
    have HNA5 := Lib.hid (HNA.out.later hb35)
    have HNB5 := Lib.hid (HNB.out.later hb35)
    have HBZ5 := Lib.hid (hbz.trans (hb35.mono hbz.size))
    have HB35 := Lib.hid hb35
    clear hck hb4 hb5 hb35 hbz HNA HNB m0 m1 m2
    obtain ⟨⟨m0, m1, m2⟩, -⟩ := HNA5.out
    obtain ⟨⟨n0, n1, n2⟩, -⟩ := HNB5.out
    cases ra
    · obtain rfl : sm = false := by
        cases sm
        · rfl
        · exact absurd (HSM.out.1 rfl).1 Bool.false_ne_true
      go_upto_region 9 with fail
      obtain ⟨Wc, hWc⟩ : ∃ W, W5 = W := ⟨_, rfl⟩
      have hbW : Below W5.heap.size W5 Wc := by rw [← hWc]; exact Below.refl _ _
      rw [hWc]
      clear hWc
      have HLA := Lib.hid ((HLA5.out.later hbW).more hbW.size)
      have HLB := Lib.hid ((HLB5.out.later hbW).more hbW.size)
      have hna := HNA5.out.later hbW
      have hnb := HNB5.out.later hbW
      have hnx := HX3.out.later (bel_next HB35.out hbW)
      have hax0 : ∀ W, Below Wc.heap.size Wc W → W.cell? ⟨gA, 0, none⟩ = some (.bool Na.leaf) := fun W h => (hna.later h).1.1
      have hax1 : ∀ W, Below Wc.heap.size Wc W → W.cell? ⟨gA, 1, none⟩ = some (.slice Na.iA Na.iN Na.iC) := fun W h => (hna.later h).1.2.1
      have hax2 : ∀ W, Below Wc.heap.size Wc W → W.cell? ⟨gA, 2, none⟩ = some (.slice Na.kA Na.kN Na.kC) := fun W h => (hna.later h).1.2.2
      have hbx0 : ∀ W, Below Wc.heap.size Wc W → W.cell? ⟨gB, 0, none⟩ = some (.bool Nb.leaf) := fun W h => (hnb.later h).1.1
      have hbx1 : ∀ W, Below Wc.heap.size Wc W → W.cell? ⟨gB, 1, none⟩ = some (.slice Nb.iA Nb.iN Nb.iC) := fun W h => (hnb.later h).1.2.1
      have hbx2 : ∀ W, Below Wc.heap.size Wc W → W.cell? ⟨gB, 2, none⟩ = some (.slice Nb.kA Nb.kN Nb.kC) := fun W h => (hnb.later h).1.2.2
      have hxx0 : ∀ W, Below Wc.heap.size Wc W → W.cell? ⟨w.heap.size, 0, none⟩ = some (.bool X1.leaf) := fun W h => (hnx.later h).1.1
      have hxx1 : ∀ W, Below Wc.heap.size Wc W → W.cell? ⟨w.heap.size, 1, none⟩ = some (.slice X1.iA X1.iN X1.iC) := fun W h => (hnx.later h).1.2.1
      have hxx2 : ∀ W, Below Wc.heap.size Wc W → W.cell? ⟨w.heap.size, 2, none⟩ = some (.slice X1.kA X1.kN X1.kC) := fun W h => (hnx.later h).1.2.2
      have HcA9 := Lib.hid (fun W (h : Below Wc.heap.size Wc W) => HcA3.out W (bel_next (bel_next HB35.out hbW) h))
      have HBC := Lib.hid (HBZ5.out.trans (hbW.mono HBZ5.out.size))
      have HNAc := Lib.hid hna
      clear hna hnb hnx m0 m1 m2 n0 n1 n2 hbW
      refine wp_region_held_drew (S := fun W => Below Wc.heap.size Wc W) (by kernel_rfl) (below_drewN (Below.refl _ _) 1) (fun hHeld => ?_)
      refine rg_in 0 rfl (by kernel_rfl) (by kernel_rfl) (by kernel_rfl) (by rfl) (v := ?_) (fun _ _ _ h => h) hHeld (fun w hSw => ?_) ?_
      rotate_left
      · (try dsimp only at hSw); go_simp <;> (with_reducible rfl)
      (try simp only [Act.put, List.setIfInBounds_toArray, List.set_cons_zero, List.set_cons_succ])
      refine rg_in 1 rfl (by kernel_rfl) (by kernel_rfl) (by kernel_rfl) (by rfl) (v := ?_) (fun _ _ _ h => h) hHeld (fun w hSw => ?_) ?_
      rotate_left
      · (try dsimp only at hSw); go_simp <;> (with_reducible rfl)
      (try simp only [Act.put, List.setIfInBounds_toArray, List.set_cons_zero, List.set_cons_succ])
      refine rg_in 3 rfl (by kernel_rfl) (by kernel_rfl) (by kernel_rfl) (by rfl) (v := ?_) (fun _ _ _ h => h) hHeld (fun w hSw => ?_) ?_
      rotate_left
      · (try dsimp only at hSw); go_simp <;> (with_reducible rfl)
      (try simp only [Act.put, List.setIfInBounds_toArray, List.set_cons_zero, List.set_cons_succ])
      refine rg_do 2 rfl (by kernel_rfl) (by rfl) (fun K hK => ?_)
      have hcs := same14_any Na Nb Wc.heap.size _ (HLA.out.later hHeld) (HLB.out.later hHeld) hHeld.size
      rw [HS1.out, HGA.out, HGB.out] at hcs
      go_simp
      (go_at_call 16; (with_reducible refine hcs.mono ?_); (rintro e w102 ⟨rfl, hbs⟩))
      clear hcs
      refine hK.out _ _ (bel_next hHeld hbs) (fun hHeld => ?_)
      clear hK K
      (try simp only [Act.put, List.setIfInBounds_toArray, List.set_cons_zero, List.set_cons_succ])
      refine rg_in 4 rfl (by kernel_rfl) (by kernel_rfl) (by kernel_rfl) (by rfl) (v := ?_) (fun _ _ _ h => h) hHeld (fun w hSw => ?_) ?_
      rotate_left
      · (try dsimp only at hSw); go_simp <;> (with_reducible rfl)
      (try simp only [Act.put, List.setIfInBounds_toArray, List.set_cons_zero, List.set_cons_succ])
      refine rg_in 5 rfl (by kernel_rfl) (by kernel_rfl) (by kernel_rfl) (by rfl) (v := ?_) (fun _ _ _ h => h) hHeld (fun w hSw => ?_) ?_
      rotate_left
      · (try dsimp only at hSw); go_simp <;> (with_reducible rfl)
      (try simp only [Act.put, List.setIfInBounds_toArray, List.set_cons_zero, List.set_cons_succ])
      refine rg_in 6 rfl (by kernel_rfl) (by kernel_rfl) (by kernel_rfl) (by rfl) (v := ?_) (fun _ _ _ h => h) hHeld (fun w hSw => ?_) ?_
      rotate_left
      · (try dsimp only at hSw); go_simp <;> (with_reducible rfl)
      (try simp only [Act.put, List.setIfInBounds_toArray, List.set_cons_zero, List.set_cons_succ])
      refine rg_in 7 rfl (by kernel_rfl) (by kernel_rfl) (by kernel_rfl) (by rfl) (v := ?_) (fun _ _ _ h => h) hHeld (fun w hSw => ?_) ?_
      rotate_left
      · (try dsimp only at hSw); go_simp <;> (with_reducible rfl)
      (try simp only [Act.put, List.setIfInBounds_toArray, List.set_cons_zero, List.set_cons_succ])
      refine rg_in 9 rfl (by kernel_rfl) (by kernel_rfl) (by kernel_rfl) (by rfl) (v := ?_) (fun _ _ _ h => h) hHeld (fun w hSw => ?_) ?_
      rotate_left
      · (try dsimp only at hSw); go_simp <;> (with_reducible rfl)
      (try simp only [Act.put, List.setIfInBounds_toArray, List.set_cons_zero, List.set_cons_succ])
      refine rg_do 8 rfl (by kernel_rfl) (by rfl) (fun K hK => ?_)
      have hcs := same14_any Nb Na Wc.heap.size _ (HLB.out.later hHeld) (HLA.out.later hHeld) hHeld.size
      rw [HS2.out, HGB.out, HGA.out] at hcs
      go_simp
      (go_at_call 16; (with_reducible refine hcs.mono ?_); (rintro e w108 ⟨rfl, hbs⟩))
      clear hcs
      refine hK.out _ _ (bel_next hHeld hbs) (fun hHeld => ?_)
      clear hK K
      (try simp only [Act.put, List.setIfInBounds_toArray, List.set_cons_zero, List.set_cons_succ])
      refine rg_in 10 rfl (by kernel_rfl) (by kernel_rfl) (by kernel_rfl) (by rfl) (v := ?_) (fun _ _ _ h => h) hHeld (fun w hSw => ?_) ?_
      rotate_left
      · (try dsimp only at hSw); go_simp <;> (with_reducible rfl)
      (try simp only [Act.put, List.setIfInBounds_toArray, List.set_cons_zero, List.set_cons_succ])
      refine rg_in 11 rfl (by kernel_rfl) (by kernel_rfl) (by kernel_rfl) (by rfl) (v := ?_) (fun _ _ _ h => h) hHeld (fun w hSw => ?_) ?_
      rotate_left
      · (try dsimp only at hSw); go_simp <;> (with_reducible rfl)
      (try simp only [Act.put, List.setIfInBounds_toArray, List.set_cons_zero, List.set_cons_succ])
      refine rg_in 12 rfl (by kernel_rfl) (by kernel_rfl) (by kernel_rfl) (by rfl) (v := ?_) (fun _ _ _ h => h) hHeld (fun w hSw => ?_) ?_
      rotate_left
      · (try dsimp only at hSw); go_simp <;> (with_reducible rfl)
      (try simp only [Act.put, List.setIfInBounds_toArray, List.set_cons_zero, List.set_cons_succ])
      refine rg_in 13 rfl (by kernel_rfl) (by kernel_rfl) (by kernel_rfl) (by rfl) (v := ?_) (fun _ _ _ h => h) hHeld (fun w hSw => ?_) ?_
      rotate_left
      · (try dsimp only at hSw); go_simp <;> (with_reducible rfl)
      (try simp only [Act.put, List.setIfInBounds_toArray, List.set_cons_zero, List.set_cons_succ])
      refine rg_in 14 rfl (by kernel_rfl) (by kernel_rfl) (by kernel_rfl) (by rfl) (v := ?_) (fun _ _ _ h => h) hHeld (fun w hSw => ?_) ?_
      rotate_left
      · (try dsimp only at hSw); go_simp <;> (with_reducible rfl)
      (try simp only [Act.put, List.setIfInBounds_toArray, List.set_cons_zero, List.set_cons_succ])
      refine rg_in 17 rfl (by kernel_rfl) (by kernel_rfl) (by kernel_rfl) (by rfl) (v := ?_) (fun _ _ _ h => h) hHeld (fun w hSw => ?_) ?_
      rotate_left
      · (try dsimp only at hSw); go_simp <;> (with_reducible rfl)
      (try simp only [Act.put, List.setIfInBounds_toArray, List.set_cons_zero, List.set_cons_succ])
      refine rg_do 15 rfl (by kernel_rfl) (by rfl) (fun K hK => ?_)
      go_simp
      (go_at_call 12; (with_reducible refine (HcA9.out _ hHeld).mono ?_); (rintro e w115 ⟨hbs, Nc, rfl, hOc⟩))
      have hag : Nc.agg = .agg #[.bool Nc.leaf, .slice Nc.iA Nc.iN Nc.iC, .slice Nc.kA Nc.kN Nc.kC] := rfl
      have HGC := Lib.hid hag
      rw [hag]
      clear hag
      refine hK.out _ _ (bel_next hHeld hbs) (fun hHeld => ?_)
      clear hK K
      (try simp only [Act.put, List.setIfInBounds_toArray, List.set_cons_zero, List.set_cons_succ])
      refine rg_do 16 rfl (by kernel_rfl) (by rfl) (fun K hK => ?_)
      have hcs := same14_any Na Nc _ _ ((HLA.out.later hHeld).more hHeld.size) hOc.lie (Nat.le_refl _)
      rw [HS3.out Nc (hOc.said.trans HSD.out.symm) hOc.lie.lens, HGA.out, HGC.out] at hcs
      go_simp
      (go_at_call 16; (with_reducible refine hcs.mono ?_); (rintro e w116 ⟨rfl, hbs⟩))
      clear hcs
      refine hK.out _ _ (bel_next hHeld hbs) (fun hHeld => ?_)
      clear hK K
      (try simp only [Act.put, List.setIfInBounds_toArray, List.set_cons_zero, List.set_cons_succ])
      refine rg_in 18 rfl (by kernel_rfl) (by kernel_rfl) (by kernel_rfl) (by rfl) (v := ?_) (fun _ _ _ h => h) hHeld (fun w hSw => ?_) ?_
      rotate_left
      · (try dsimp only at hSw); go_simp <;> (with_reducible rfl)
      (try simp only [Act.put, List.setIfInBounds_toArray, List.set_cons_zero, List.set_cons_succ])
      refine rg_in 19 rfl (by kernel_rfl) (by kernel_rfl) (by kernel_rfl) (by rfl) (v := ?_) (fun _ _ _ h => h) hHeld (fun w hSw => ?_) ?_
      rotate_left
      · (try dsimp only at hSw); go_simp <;> (with_reducible rfl)
      (try simp only [Act.put, List.setIfInBounds_toArray, List.set_cons_zero, List.set_cons_succ])
      refine wpAnyH_done (by kernel_rfl) ?_ _
      have hbd := hHeld
      have hLd := HLA.out.later hbd
      have hNd := HNAc.out.later hbd
      have hBd := HBC.out.trans (hbd.mono HBC.out.size)
      have hcf := first_any Na Wc.heap.size _ hLd hbd.size
      rw [HGA.out] at hcf
      clear hHeld hbx0 hbx1 hbx2 hxx0 hxx1 hxx2 hax0 hax1 hax2
      obtain ⟨⟨m0, m1, m2⟩, -⟩ := hNd
      go_wp2_with fail
      refine hcf.mono ?_
      rintro e We ⟨hb6, hh⟩
      have hbe := bel_next hbd hb6
      have hcd := red14_any Na Wc.heap.size We (HLA.out.later hbe) hbe.size
      rw [HGA.out] at hcd
      obtain ⟨⟨p0, p1, p2⟩, -⟩ := HNAc.out.later hbe
      clear hcf m0 m1 m2 hLd
      rcases hh with ⟨_, rfl⟩ | ⟨hno, _⟩
      rotate_left
      · rw [HRA.out] at hno
        cases hno
      go_wp2_with fail
      refine hcd.mono ?_
      rintro e Wg ⟨hb7, ⟨_, rfl⟩ | ⟨hno, _⟩⟩
      rotate_left
      · rw [HRA.out] at hno
        cases hno
      have hbg := bel_next hbe hb7
      have hbf := bel_alloc hbg (.cells #[.int .i64 0, .int .i64 0, .int .i64 0, .int .u64 0, .int .i64 0, .int .i64 0] 37)
      have hbz := HBC.out.trans (hbf.mono HBC.out.size)
      clear hcd hb6 hb7 hbe hbd hBd p0 p1 p2 hbg hbf
      go_wp2
      go_ret
      exact ⟨rfl, hbz⟩
    · go_upto_region 8 with fail
      go_cut [9] (fun s wx => s = .bool sm ∧ Below W5.heap.size W5 wx)
      case first =>
        have hcr := rRight14_any Nb _ W5 HLB5.out (Nat.le_refl _)
        rw [HRB.out, HGB.out] at hcr
        go_wp2_with fail
        refine hcr.mono ?_
        rintro e W6 ⟨rfl, hb6⟩
        clear hcr
        cases rb
        · obtain rfl : sm = false := by
            cases sm
            · rfl
            · exact absurd (HSM.out.1 rfl).2.1 Bool.false_ne_true
          clear m0 m1 m2 n0 n1 n2
          go_wp2_with fail
          go_meet
          case rel => exact ⟨rfl, hb6⟩
        · have hcs := rSame14_any Na Nb _ W6 (HLA5.out.later hb6) (HLB5.out.later hb6) hb6.size
          rw [HGA.out, HGB.out] at hcs
          obtain ⟨⟨m0, m1, m2⟩, -⟩ := HNA5.out.later hb6
          obtain ⟨⟨n0, n1, n2⟩, -⟩ := HNB5.out.later hb6
          go_wp2_with fail
          refine hcs.mono ?_
          rintro e W7 ⟨z, rfl, hz, hb7⟩
          obtain rfl : z = sm := by
            rw [Bool.eq_iff_iff, hz, HSM.out]
            exact ⟨fun h => ⟨by first | rfl | trivial, by first | rfl | trivial, h⟩, fun h => h.2.2⟩
          have hb67 := bel_next hb6 hb7
          clear hcs m0 m1 m2 n0 n1 n2 hz
          go_wp2_with fail
          go_meet
          case rel => exact ⟨rfl, hb67⟩
      case rest =>
        obtain ⟨rfl, hbW⟩ := hcut
        rename World => Wc
        go_upto_region 9 with fail
        have HLA := Lib.hid ((HLA5.out.later hbW).more hbW.size)
        have HLB := Lib.hid ((HLB5.out.later hbW).more hbW.size)
        have hna := HNA5.out.later hbW
        have hnb := HNB5.out.later hbW
        have hnx := HX3.out.later (bel_next HB35.out hbW)
        have hax0 : ∀ W, Below Wc.heap.size Wc W → W.cell? ⟨gA, 0, none⟩ = some (.bool Na.leaf) := fun W h => (hna.later h).1.1
        have hax1 : ∀ W, Below Wc.heap.size Wc W → W.cell? ⟨gA, 1, none⟩ = some (.slice Na.iA Na.iN Na.iC) := fun W h => (hna.later h).1.2.1
        have hax2 : ∀ W, Below Wc.heap.size Wc W → W.cell? ⟨gA, 2, none⟩ = some (.slice Na.kA Na.kN Na.kC) := fun W h => (hna.later h).1.2.2
        have hbx0 : ∀ W, Below Wc.heap.size Wc W → W.cell? ⟨gB, 0, none⟩ = some (.bool Nb.leaf) := fun W h => (hnb.later h).1.1
        have hbx1 : ∀ W, Below Wc.heap.size Wc W → W.cell? ⟨gB, 1, none⟩ = some (.slice Nb.iA Nb.iN Nb.iC) := fun W h => (hnb.later h).1.2.1
        have hbx2 : ∀ W, Below Wc.heap.size Wc W → W.cell? ⟨gB, 2, none⟩ = some (.slice Nb.kA Nb.kN Nb.kC) := fun W h => (hnb.later h).1.2.2
        have hxx0 : ∀ W, Below Wc.heap.size Wc W → W.cell? ⟨w.heap.size, 0, none⟩ = some (.bool X1.leaf) := fun W h => (hnx.later h).1.1
        have hxx1 : ∀ W, Below Wc.heap.size Wc W → W.cell? ⟨w.heap.size, 1, none⟩ = some (.slice X1.iA X1.iN X1.iC) := fun W h => (hnx.later h).1.2.1
        have hxx2 : ∀ W, Below Wc.heap.size Wc W → W.cell? ⟨w.heap.size, 2, none⟩ = some (.slice X1.kA X1.kN X1.kC) := fun W h => (hnx.later h).1.2.2
        have HcA9 := Lib.hid (fun W (h : Below Wc.heap.size Wc W) => HcA3.out W (bel_next (bel_next HB35.out hbW) h))
        have HBC := Lib.hid (HBZ5.out.trans (hbW.mono HBZ5.out.size))
        have HNAc := Lib.hid hna
        clear hna hnb hnx m0 m1 m2 n0 n1 n2 hbW
        refine wp_region_held_drew (S := fun W => Below Wc.heap.size Wc W) (by kernel_rfl) (below_drewN (Below.refl _ _) 1) (fun hHeld => ?_)
        refine rg_in 0 rfl (by kernel_rfl) (by kernel_rfl) (by kernel_rfl) (by rfl) (v := ?_) (fun _ _ _ h => h) hHeld (fun w hSw => ?_) ?_
        rotate_left
        · (try dsimp only at hSw); go_simp <;> (with_reducible rfl)
        (try simp only [Act.put, List.setIfInBounds_toArray, List.set_cons_zero, List.set_cons_succ])
        refine rg_in 1 rfl (by kernel_rfl) (by kernel_rfl) (by kernel_rfl) (by rfl) (v := ?_) (fun _ _ _ h => h) hHeld (fun w hSw => ?_) ?_
        rotate_left
        · (try dsimp only at hSw); go_simp <;> (with_reducible rfl)
        (try simp only [Act.put, List.setIfInBounds_toArray, List.set_cons_zero, List.set_cons_succ])
        refine rg_in 3 rfl (by kernel_rfl) (by kernel_rfl) (by kernel_rfl) (by rfl) (v := ?_) (fun _ _ _ h => h) hHeld (fun w hSw => ?_) ?_
        rotate_left
        · (try dsimp only at hSw); go_simp <;> (with_reducible rfl)
        (try simp only [Act.put, List.setIfInBounds_toArray, List.set_cons_zero, List.set_cons_succ])
        refine rg_do 2 rfl (by kernel_rfl) (by rfl) (fun K hK => ?_)
        have hcs := same14_any Na Nb Wc.heap.size _ (HLA.out.later hHeld) (HLB.out.later hHeld) hHeld.size
        rw [HS1.out, HGA.out, HGB.out] at hcs
        go_simp
        (go_at_call 16; (with_reducible refine hcs.mono ?_); (rintro e w102 ⟨rfl, hbs⟩))
        clear hcs
        refine hK.out _ _ (bel_next hHeld hbs) (fun hHeld => ?_)
        clear hK K
        (try simp only [Act.put, List.setIfInBounds_toArray, List.set_cons_zero, List.set_cons_succ])
        refine rg_in 4 rfl (by kernel_rfl) (by kernel_rfl) (by kernel_rfl) (by rfl) (v := ?_) (fun _ _ _ h => h) hHeld (fun w hSw => ?_) ?_
        rotate_left
        · (try dsimp only at hSw); go_simp <;> (with_reducible rfl)
        (try simp only [Act.put, List.setIfInBounds_toArray, List.set_cons_zero, List.set_cons_succ])
        refine rg_in 5 rfl (by kernel_rfl) (by kernel_rfl) (by kernel_rfl) (by rfl) (v := ?_) (fun _ _ _ h => h) hHeld (fun w hSw => ?_) ?_
        rotate_left
        · (try dsimp only at hSw); go_simp <;> (with_reducible rfl)
        (try simp only [Act.put, List.setIfInBounds_toArray, List.set_cons_zero, List.set_cons_succ])
        refine rg_in 6 rfl (by kernel_rfl) (by kernel_rfl) (by kernel_rfl) (by rfl) (v := ?_) (fun _ _ _ h => h) hHeld (fun w hSw => ?_) ?_
        rotate_left
        · (try dsimp only at hSw); go_simp <;> (with_reducible rfl)
        (try simp only [Act.put, List.setIfInBounds_toArray, List.set_cons_zero, List.set_cons_succ])
        refine rg_in 7 rfl (by kernel_rfl) (by kernel_rfl) (by kernel_rfl) (by rfl) (v := ?_) (fun _ _ _ h => h) hHeld (fun w hSw => ?_) ?_
        rotate_left
        · (try dsimp only at hSw); go_simp <;> (with_reducible rfl)
        (try simp only [Act.put, List.setIfInBounds_toArray, List.set_cons_zero, List.set_cons_succ])
        refine rg_in 9 rfl (by kernel_rfl) (by kernel_rfl) (by kernel_rfl) (by rfl) (v := ?_) (fun _ _ _ h => h) hHeld (fun w hSw => ?_) ?_
        rotate_left
        · (try dsimp only at hSw); go_simp <;> (with_reducible rfl)
        (try simp only [Act.put, List.setIfInBounds_toArray, List.set_cons_zero, List.set_cons_succ])
        refine rg_do 8 rfl (by kernel_rfl) (by rfl) (fun K hK => ?_)
        have hcs := same14_any Nb Na Wc.heap.size _ (HLB.out.later hHeld) (HLA.out.later hHeld) hHeld.size
        rw [HS2.out, HGB.out, HGA.out] at hcs
        go_simp
        (go_at_call 16; (with_reducible refine hcs.mono ?_); (rintro e w108 ⟨rfl, hbs⟩))
        clear hcs
        refine hK.out _ _ (bel_next hHeld hbs) (fun hHeld => ?_)
        clear hK K
        (try simp only [Act.put, List.setIfInBounds_toArray, List.set_cons_zero, List.set_cons_succ])
        refine rg_in 10 rfl (by kernel_rfl) (by kernel_rfl) (by kernel_rfl) (by rfl) (v := ?_) (fun _ _ _ h => h) hHeld (fun w hSw => ?_) ?_
        rotate_left
        · (try dsimp only at hSw); go_simp <;> (with_reducible rfl)
        (try simp only [Act.put, List.setIfInBounds_toArray, List.set_cons_zero, List.set_cons_succ])
        refine rg_in 11 rfl (by kernel_rfl) (by kernel_rfl) (by kernel_rfl) (by rfl) (v := ?_) (fun _ _ _ h => h) hHeld (fun w hSw => ?_) ?_
        rotate_left
        · (try dsimp only at hSw); go_simp <;> (with_reducible rfl)
        (try simp only [Act.put, List.setIfInBounds_toArray, List.set_cons_zero, List.set_cons_succ])
        refine rg_in 12 rfl (by kernel_rfl) (by kernel_rfl) (by kernel_rfl) (by rfl) (v := ?_) (fun _ _ _ h => h) hHeld (fun w hSw => ?_) ?_
        rotate_left
        · (try dsimp only at hSw); go_simp <;> (with_reducible rfl)
        (try simp only [Act.put, List.setIfInBounds_toArray, List.set_cons_zero, List.set_cons_succ])
        refine rg_in 13 rfl (by kernel_rfl) (by kernel_rfl) (by kernel_rfl) (by rfl) (v := ?_) (fun _ _ _ h => h) hHeld (fun w hSw => ?_) ?_
        rotate_left
        · (try dsimp only at hSw); go_simp <;> (with_reducible rfl)
        (try simp only [Act.put, List.setIfInBounds_toArray, List.set_cons_zero, List.set_cons_succ])
        refine rg_in 14 rfl (by kernel_rfl) (by kernel_rfl) (by kernel_rfl) (by rfl) (v := ?_) (fun _ _ _ h => h) hHeld (fun w hSw => ?_) ?_
        rotate_left
        · (try dsimp only at hSw); go_simp <;> (with_reducible rfl)
        (try simp only [Act.put, List.setIfInBounds_toArray, List.set_cons_zero, List.set_cons_succ])
        refine rg_in 17 rfl (by kernel_rfl) (by kernel_rfl) (by kernel_rfl) (by rfl) (v := ?_) (fun _ _ _ h => h) hHeld (fun w hSw => ?_) ?_
        rotate_left
        · (try dsimp only at hSw); go_simp <;> (with_reducible rfl)
        (try simp only [Act.put, List.setIfInBounds_toArray, List.set_cons_zero, List.set_cons_succ])
        refine rg_do 15 rfl (by kernel_rfl) (by rfl) (fun K hK => ?_)
        go_simp
        (go_at_call 12; (with_reducible refine (HcA9.out _ hHeld).mono ?_); (rintro e w115 ⟨hbs, Nc, rfl, hOc⟩))
        have hag : Nc.agg = .agg #[.bool Nc.leaf, .slice Nc.iA Nc.iN Nc.iC, .slice Nc.kA Nc.kN Nc.kC] := rfl
        have HGC := Lib.hid hag
        rw [hag]
        clear hag
        refine hK.out _ _ (bel_next hHeld hbs) (fun hHeld => ?_)
        clear hK K
        (try simp only [Act.put, List.setIfInBounds_toArray, List.set_cons_zero, List.set_cons_succ])
        refine rg_do 16 rfl (by kernel_rfl) (by rfl) (fun K hK => ?_)
        have hcs := same14_any Na Nc _ _ ((HLA.out.later hHeld).more hHeld.size) hOc.lie (Nat.le_refl _)
        rw [HS3.out Nc (hOc.said.trans HSD.out.symm) hOc.lie.lens, HGA.out, HGC.out] at hcs
        go_simp
        (go_at_call 16; (with_reducible refine hcs.mono ?_); (rintro e w116 ⟨rfl, hbs⟩))
        clear hcs
        refine hK.out _ _ (bel_next hHeld hbs) (fun hHeld => ?_)
        clear hK K
        (try simp only [Act.put, List.setIfInBounds_toArray, List.set_cons_zero, List.set_cons_succ])
        refine rg_in 18 rfl (by kernel_rfl) (by kernel_rfl) (by kernel_rfl) (by rfl) (v := ?_) (fun _ _ _ h => h) hHeld (fun w hSw => ?_) ?_
        rotate_left
        · (try dsimp only at hSw); go_simp <;> (with_reducible rfl)
        (try simp only [Act.put, List.setIfInBounds_toArray, List.set_cons_zero, List.set_cons_succ])
        refine rg_in 19 rfl (by kernel_rfl) (by kernel_rfl) (by kernel_rfl) (by rfl) (v := ?_) (fun _ _ _ h => h) hHeld (fun w hSw => ?_) ?_
        rotate_left
        · (try dsimp only at hSw); go_simp <;> (with_reducible rfl)
        (try simp only [Act.put, List.setIfInBounds_toArray, List.set_cons_zero, List.set_cons_succ])
        refine wpAnyH_done (by kernel_rfl) ?_ _
        have hbd := hHeld
        have hLd := HLA.out.later hbd
        have hNd := HNAc.out.later hbd
        have hBd := HBC.out.trans (hbd.mono HBC.out.size)
        have hcf := first_any Na Wc.heap.size _ hLd hbd.size
        rw [HGA.out] at hcf
        clear hHeld hbx0 hbx1 hbx2 hxx0 hxx1 hxx2 hax0 hax1 hax2
        obtain ⟨⟨m0, m1, m2⟩, -⟩ := hNd
        go_wp2_with fail
        refine hcf.mono ?_
        rintro e We ⟨hb6, hh⟩
        have hbe := bel_next hbd hb6
        have hcd := red14_any Na Wc.heap.size We (HLA.out.later hbe) hbe.size
        rw [HGA.out] at hcd
        obtain ⟨⟨p0, p1, p2⟩, -⟩ := HNAc.out.later hbe
        clear hcf m0 m1 m2 hLd
        rcases hh with ⟨hno, _⟩ | ⟨_, rfl⟩
        · rw [HRA.out] at hno
          cases hno
        go_wp2_with fail
        refine hcd.mono ?_
        rintro e Wg ⟨hb7, ⟨hno, _⟩ | ⟨_, rfl⟩⟩
        · rw [HRA.out] at hno
          cases hno
        obtain ⟨R, hR⟩ : ∃ R, Na.all.1 = R := ⟨_, rfl⟩
        rw [hR]
        have HR := Lib.hid hR
        have hbg := bel_next hbe hb7
        have hbf := bel_alloc hbg (.cells #[.int .i64 R.c, .int .i64 R.i, .int .i64 (hiI R.v), .int .u64 (loI R.v), .int .i64 R.l, .int .i64 R.m] 37)
        have hsx := Six.new Wg (.int .i64 R.c) (.int .i64 R.i) (.int .i64 (hiI R.v)) (.int .u64 (loI R.v)) (.int .i64 R.l) (.int .i64 R.m) 37
        have HBF := Lib.hid (HBC.out.trans (hbf.mono HBC.out.size))
        have HLF := Lib.hid ((HLA.out.later hbf).more hbf.size)
        have hnf := HNAc.out.later hbf
        clear hcd hb6 hb7 hbe hbd hBd p0 p1 p2 hbg hbf hR
        go_upto_region 15 with fail
        generalize Wg.alloc (.cells #[.int .i64 R.c, .int .i64 R.i, .int .i64 (hiI R.v), .int .u64 (loI R.v), .int .i64 R.l, .int .i64 R.m] 37) = Wf at *
        have hfx0 : ∀ W, Below Wf.heap.size Wf W → W.cell? ⟨gA, 0, none⟩ = some (.bool Na.leaf) := fun W h => (hnf.later h).1.1
        have hfx1 : ∀ W, Below Wf.heap.size Wf W → W.cell? ⟨gA, 1, none⟩ = some (.slice Na.iA Na.iN Na.iC) := fun W h => (hnf.later h).1.2.1
        have hfx2 : ∀ W, Below Wf.heap.size Wf W → W.cell? ⟨gA, 2, none⟩ = some (.slice Na.kA Na.kN Na.kC) := fun W h => (hnf.later h).1.2.2
        have hrx0 : ∀ W, Below Wf.heap.size Wf W → W.cell? ⟨Wg.heap.size, 0, none⟩ = some (.int .i64 R.c) := fun W h => (hsx.below h rfl).1.1
        have hrx1 : ∀ W, Below Wf.heap.size Wf W → W.cell? ⟨Wg.heap.size, 1, none⟩ = some (.int .i64 R.i) := fun W h => (hsx.below h rfl).1.2.1
        have hrx2 : ∀ W, Below Wf.heap.size Wf W → W.cell? ⟨Wg.heap.size, 2, none⟩ = some (.int .i64 (hiI R.v)) := fun W h => (hsx.below h rfl).1.2.2.1
        have hrx3 : ∀ W, Below Wf.heap.size Wf W → W.cell? ⟨Wg.heap.size, 3, none⟩ = some (.int .u64 (loI R.v)) := fun W h => (hsx.below h rfl).1.2.2.2.1
        have hrx4 : ∀ W, Below Wf.heap.size Wf W → W.cell? ⟨Wg.heap.size, 4, none⟩ = some (.int .i64 R.l) := fun W h => (hsx.below h rfl).1.2.2.2.2.1
        have hrx5 : ∀ W, Below Wf.heap.size Wf W → W.cell? ⟨Wg.heap.size, 5, none⟩ = some (.int .i64 R.m) := fun W h => (hsx.below h rfl).1.2.2.2.2.2
        have hcF : ∀ W, Below Wf.heap.size Wf W → Calls Try.prog 20 #[.agg #[.bool Na.leaf, .slice Na.iA Na.iN Na.iC, .slice Na.kA Na.kN Na.kC]] W fun e w' => e = .returned (.slice Na.fst.A Na.fst.n Na.fst.c) ∧ Below W.heap.size W w' := fun W h => rFirst_any Na Wf.heap.size W (HLF.out.later h) h.size HRA.out
        have hcR : ∀ W, Below Wf.heap.size Wf W → Calls Try.prog 21 #[.agg #[.bool Na.leaf, .slice Na.iA Na.iN Na.iC, .slice Na.kA Na.kN Na.kC]] W fun e w' => e = .returned (.agg #[.int .i64 R.c, .int .i64 R.i, .int .i64 (hiI R.v), .int .u64 (loI R.v), .int .i64 R.l, .int .i64 R.m]) ∧ Below W.heap.size W w' := fun W h => by
          have h1 := rRed14_any Na Wf.heap.size W (HLF.out.later h) h.size HRA.out
          unfold aggR at h1
          rw [HR.out] at h1
          exact h1
        have HcF := Lib.hid hcF
        have HcR := Lib.hid hcR
        have HFO := Lib.hid (fun W (h : Below Wf.heap.size Wf W) => fst_ok (HLF.out.later h) HRA.out)
        clear hnf hsx hcF hcR
        refine wp_region_held_drew (S := fun W => Below Wf.heap.size Wf W) (by kernel_rfl) (below_drewN (Below.refl _ _) 1) (fun hHeld => ?_)
        refine rg_in 0 rfl (by kernel_rfl) (by kernel_rfl) (by kernel_rfl) (by rfl) (v := ?_) (fun _ _ _ h => h) hHeld (fun w hSw => ?_) ?_
        rotate_left
        · (try dsimp only at hSw); go_simp <;> (with_reducible rfl)
        (try simp only [Act.put, List.setIfInBounds_toArray, List.set_cons_zero, List.set_cons_succ])
        refine rg_in 1 rfl (by kernel_rfl) (by kernel_rfl) (by kernel_rfl) (by rfl) (v := ?_) (fun _ _ _ h => h) hHeld (fun w hSw => ?_) ?_
        rotate_left
        · (try dsimp only at hSw); go_simp <;> (with_reducible rfl)
        (try simp only [Act.put, List.setIfInBounds_toArray, List.set_cons_zero, List.set_cons_succ])
        refine rg_in 2 rfl (by kernel_rfl) (by kernel_rfl) (by kernel_rfl) (by rfl) (v := ?_) (fun _ _ _ h => h) hHeld (fun w hSw => ?_) ?_
        rotate_left
        · (try dsimp only at hSw); go_simp <;> (with_reducible rfl)
        (try simp only [Act.put, List.setIfInBounds_toArray, List.set_cons_zero, List.set_cons_succ])
        refine rg_in 3 rfl (by kernel_rfl) (by kernel_rfl) (by kernel_rfl) (by rfl) (v := ?_) (fun _ _ _ h => h) hHeld (fun w hSw => ?_) ?_
        rotate_left
        · (try dsimp only at hSw); go_simp <;> (with_reducible rfl)
        (try simp only [Act.put, List.setIfInBounds_toArray, List.set_cons_zero, List.set_cons_succ])
        refine rg_in 4 rfl (by kernel_rfl) (by kernel_rfl) (by kernel_rfl) (by rfl) (v := ?_) (fun _ _ _ h => h) hHeld (fun w hSw => ?_) ?_
        rotate_left
        · (try dsimp only at hSw); go_simp <;> (with_reducible rfl)
        (try simp only [Act.put, List.setIfInBounds_toArray, List.set_cons_zero, List.set_cons_succ])
        refine rg_in 5 rfl (by kernel_rfl) (by kernel_rfl) (by kernel_rfl) (by rfl) (v := ?_) (fun _ _ _ h => h) hHeld (fun w hSw => ?_) ?_
        rotate_left
        · (try dsimp only at hSw); go_simp <;> (with_reducible rfl)
        (try simp only [Act.put, List.setIfInBounds_toArray, List.set_cons_zero, List.set_cons_succ])
        refine rg_in 6 rfl (by kernel_rfl) (by kernel_rfl) (by kernel_rfl) (by rfl) (v := ?_) (fun _ _ _ h => h) hHeld (fun w hSw => ?_) ?_
        rotate_left
        · (try dsimp only at hSw); go_simp <;> (with_reducible rfl)
        (try simp only [Act.put, List.setIfInBounds_toArray, List.set_cons_zero, List.set_cons_succ])
        refine rg_in 7 rfl (by kernel_rfl) (by kernel_rfl) (by kernel_rfl) (by rfl) (v := ?_) (fun _ _ _ h => h) hHeld (fun w hSw => ?_) ?_
        rotate_left
        · (try dsimp only at hSw); go_simp <;> (with_reducible rfl)
        (try simp only [Act.put, List.setIfInBounds_toArray, List.set_cons_zero, List.set_cons_succ])
        refine rg_in 8 rfl (by kernel_rfl) (by kernel_rfl) (by kernel_rfl) (by rfl) (v := ?_) (fun _ _ _ h => h) hHeld (fun w hSw => ?_) ?_
        rotate_left
        · (try dsimp only at hSw); go_simp <;> (with_reducible rfl)
        (try simp only [Act.put, List.setIfInBounds_toArray, List.set_cons_zero, List.set_cons_succ])
        refine rg_do 9 rfl (by kernel_rfl) (by rfl) (fun K hK => ?_)
        go_simp
        (go_at_call 20; (with_reducible refine (HcF.out _ hHeld).mono ?_); (rintro e w109 ⟨rfl, hbs⟩))
        refine hK.out _ _ (bel_next hHeld hbs) (fun hHeld => ?_)
        clear hK K
        (try simp only [Act.put, List.setIfInBounds_toArray, List.set_cons_zero, List.set_cons_succ])
        refine rg_do 10 rfl (by kernel_rfl) (by rfl) (fun K hK => ?_)
        have hfo := HFO.out _ hHeld
        have hce := bequal_any Na.fst.A Na.fst.A Na.fst.n Na.fst.c Na.fst.n Na.fst.c Na.fst.l Na.fst.l _ _ w109 hfo.here hfo.here true (sameB_iff2.2 rfl)
        have hHx := hHeld
        go_simp
        (go_at_call 19; (with_reducible refine hce.mono ?_); (rintro e w110 ⟨rfl, rfl⟩))
        clear hce hfo
        have hbs := Below.refl w109.heap.size w109
        refine hK.out _ _ hHeld (fun hHeld => ?_)
        clear hK K
        (try simp only [Act.put, List.setIfInBounds_toArray, List.set_cons_zero, List.set_cons_succ])
        refine rg_in 11 rfl (by kernel_rfl) (by kernel_rfl) (by kernel_rfl) (by rfl) (v := ?_) (fun _ _ _ h => h) hHeld (fun w hSw => ?_) ?_
        rotate_left
        · (try dsimp only at hSw); go_simp <;> (with_reducible rfl)
        (try simp only [Act.put, List.setIfInBounds_toArray, List.set_cons_zero, List.set_cons_succ])
        refine rg_in 12 rfl (by kernel_rfl) (by kernel_rfl) (by kernel_rfl) (by rfl) (v := ?_) (fun _ _ _ h => h) hHeld (fun w hSw => ?_) ?_
        rotate_left
        · (try dsimp only at hSw); go_simp <;> (with_reducible rfl)
        (try simp only [Act.put, List.setIfInBounds_toArray, List.set_cons_zero, List.set_cons_succ])
        refine rg_in 13 rfl (by kernel_rfl) (by kernel_rfl) (by kernel_rfl) (by rfl) (v := ?_) (fun _ _ _ h => h) hHeld (fun w hSw => ?_) ?_
        rotate_left
        · (try dsimp only at hSw); go_simp <;> (with_reducible rfl)
        (try simp only [Act.put, List.setIfInBounds_toArray, List.set_cons_zero, List.set_cons_succ])
        refine rg_in 14 rfl (by kernel_rfl) (by kernel_rfl) (by kernel_rfl) (by rfl) (v := ?_) (fun _ _ _ h => h) hHeld (fun w hSw => ?_) ?_
        rotate_left
        · (try dsimp only at hSw); go_simp <;> (with_reducible rfl)
        (try simp only [Act.put, List.setIfInBounds_toArray, List.set_cons_zero, List.set_cons_succ])
        refine rg_do 15 rfl (by kernel_rfl) (by rfl) (fun K hK => ?_)
        go_simp
        (go_at_call 21; (with_reducible refine (HcR.out _ hHeld).mono ?_); (rintro e w115 ⟨rfl, hbs⟩))
        refine hK.out _ _ (bel_next hHeld hbs) (fun hHeld => ?_)
        clear hK K
        (try simp only [Act.put, List.setIfInBounds_toArray, List.set_cons_zero, List.set_cons_succ])
        refine rg_in 16 rfl (by kernel_rfl) (by kernel_rfl) (by kernel_rfl) (by rfl) (v := ?_) (fun _ _ _ h => h) hHeld (fun w hSw => ?_) ?_
        rotate_left
        · (try dsimp only at hSw); go_simp <;> (with_reducible rfl)
        (try simp only [Act.put, List.setIfInBounds_toArray, List.set_cons_zero, List.set_cons_succ])
        refine rg_in 17 rfl (by kernel_rfl) (by kernel_rfl) (by kernel_rfl) (by rfl) (v := ?_) (fun _ _ _ h => h) hHeld (fun w hSw => ?_) ?_
        rotate_left
        · (try dsimp only at hSw); go_simp <;> (with_reducible rfl)
        (try simp only [Act.put, List.setIfInBounds_toArray, List.set_cons_zero, List.set_cons_succ])
        refine rg_in 18 rfl (by kernel_rfl) (by kernel_rfl) (by kernel_rfl) (by rfl) (v := ?_) (fun _ _ _ h => h) hHeld (fun w hSw => ?_) ?_
        rotate_left
        · (try dsimp only at hSw); go_simp <;> (with_reducible rfl)
        (try simp only [Act.put, List.setIfInBounds_toArray, List.set_cons_zero, List.set_cons_succ])
        refine wpAnyH_done (by kernel_rfl) ?_ _
        have hbz := HBF.out.trans (hHeld.mono HBF.out.size)
        clear hHeld
        go_wp2
        go_ret
        exact ⟨rfl, hbz⟩
end Go.Proofs.Ytnfohlabmidliaa
