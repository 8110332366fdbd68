import Derived.Test.YtnfohlabmidliaaVNodRc
import Derived.Test.YtnfohlabmidliaaGak
import Derived.Test.YtnfohlabmidliaaGag
import Derived.Test.YtnfohlabmidliaaGac
/-
  The reference's Same, of any two nodes.
-/
namespace Go.Proofs.Ytnfohlabmidliaa
open Go.RowKit
set_option linter.unusedVariables false
set_option linter.unusedSimpArgs false

theorem S_call4 {w w1 w2 : World} (h2 : Below w1.heap.size w1 w2) (h : Below w.heap.size w w1) : Below w.heap.size w w2 := bel_next h h2
theorem sameB_iff2 {l m : List UInt8} : sameB l m = true ↔ l = m := by unfold sameB; exact decide_eq_true_iff
theorem no_iff {p : Prop} (h : ¬ p) : (false = true ↔ p) := ⟨fun e => (Bool.noConfusion e), fun e => absurd e h⟩
theorem it_eqB {x y : ItT} : x.eqB y = true ↔ x.s = y.s := by
  unfold ItT.eqB ItT.s
  simp only [Bool.and_eq_true, sameB_iff2, beq_iff_eq, decide_eq_true_iff, ItS.mk.injEq]
theorem map_take_s {α β : Type} (f : α → β) {L M : List α} {i : Nat} {x y : α} (h : (L.take i).map f = (M.take i).map f) (hx : L[i]? = some x) (hy : M[i]? = some y) (he : f x = f y) : (L.take (i + 1)).map f = (M.take (i + 1)).map f := by
  rw [takeN hx, takeN hy, List.map_append, List.map_append, h, List.map_singleton, List.map_singleton, he]
theorem map_ne_s {α β : Type} (f : α → β) {L M : List α} {i : Nat} {x y : α} (hx : L[i]? = some x) (hy : M[i]? = some y) (he : f x ≠ f y) : ¬ L.map f = M.map f := fun h => by
  have h1 := congrArg (fun l => l[i]?) h
  simp only [List.getElem?_map, hx, hy, Option.map_some] at h1
  exact he (Option.some.inj h1)
theorem red_ne {r q : RedT} (h : ¬ r = q) : ¬ r.c = q.c ∨ ¬ r.i = q.i ∨ ¬ hiI r.v = hiI q.v ∨ ¬ loI r.v = loI q.v ∨ ¬ r.l = q.l ∨ ¬ r.m = q.m ∨ ¬ (r.ok ∧ q.ok) := by
  by_cases h1 : r.c = q.c
  · by_cases h2 : r.i = q.i
    · by_cases h3 : hiI r.v = hiI q.v
      · by_cases h4 : loI r.v = loI q.v
        · by_cases h5 : r.l = q.l
          · by_cases h6 : r.m = q.m
            · refine .inr (.inr (.inr (.inr (.inr (.inr fun hk => h ?_)))))
              have hv : r.v = q.v := by
                obtain ⟨⟨_, _, a, _⟩, ⟨_, _, b, _⟩⟩ := hk
                exact (hl_inj _ _ a b).1 ⟨h3, h4⟩
              obtain ⟨c1, i1, v1, l1, m1⟩ := r
              obtain ⟨c2, i2, v2, l2, m2⟩ := q
              simp only at h1 h2 hv h5 h6
              rw [h1, h2, hv, h5, h6]
            · exact .inr (.inr (.inr (.inr (.inr (.inl h6)))))
          · exact .inr (.inr (.inr (.inr (.inl h5))))
        · exact .inr (.inr (.inr (.inl h4)))
      · exact .inr (.inr (.inl h3))
    · exact .inr (.inl h2)
  · exact .inl h1
set_option maxRecDepth 20000 in
set_option maxHeartbeats 8000000 in
theorem rSame14_any (X Y : NoT) (B : Nat) (w : World) (hX : LieN w B X) (hY : LieN w B Y) (hB : B ≤ w.heap.size) :
    Calls Try.prog 15 #[X.agg, Y.agg] w fun e w' => ∃ z : Bool, e = .returned (.bool z) ∧ (z = true ↔ X.s = Y.s) ∧ Below w.heap.size w w' := by
  have hb0 := bel_alloc (Below.refl w.heap.size w) (.cells #[.bool X.leaf, .slice X.iA X.iN X.iC, .slice X.kA X.kN X.kC] 25)
  have hb := bel_alloc hb0 (.cells #[.bool Y.leaf, .slice Y.iA Y.iN Y.iC, .slice Y.kA Y.kN Y.kC] 25)
  have hn1 := (NBox.new w (.bool X.leaf) (.slice X.iA X.iN X.iC) (.slice X.kA X.kN X.kC) 25).later (bel_alloc (Below.refl _ _) (.cells #[.bool Y.leaf, .slice Y.iA Y.iN Y.iC, .slice Y.kA Y.kN Y.kC] 25))
  have hn2 := NBox.new (w.alloc (.cells #[.bool X.leaf, .slice X.iA X.iN X.iC, .slice X.kA X.kN X.kC] 25)) (.bool Y.leaf) (.slice Y.iA Y.iN Y.iC) (.slice Y.kA Y.kN Y.kC) 25
  rw [World.size_alloc] at hn2
  have ha1 : X.agg = .agg #[.bool X.leaf, .slice X.iA X.iN X.iC, .slice X.kA X.kN X.kC] := rfl
  have ha2 : Y.agg = .agg #[.bool Y.leaf, .slice Y.iA Y.iN Y.iC, .slice Y.kA Y.kN Y.kC] := rfl
  rw [ha1, ha2]
  have HXL := Lib.hid (hX.later (hb.mono hB))
  have HYL := Lib.hid (hY.later (hb.mono hB))
  have HN1 := Lib.hid hn1
  have HN2 := Lib.hid hn2
  have HLX := Lib.hid (And.intro hX.ilen hX.klen)
  have HLY := Lib.hid (And.intro hY.ilen hY.klen)
  have h63 : X.iN ≤ 9223372036854775807 ∧ X.kN ≤ 9223372036854775807 := by
    have h1 := hX.ifit
    have h2 := hX.imost
    have h3 := hX.kfit
    have h4 := hX.kmost
    unfold maxLen at h2 h4
    omega
  have hi63 : (X.iN : Int) ≤ 9223372036854775807 := by omega
  have hk63 : (X.kN : Int) ≤ 9223372036854775807 := by omega
  have hsl : X.s = Y.s → X.leaf = Y.leaf := fun h => congrArg (fun N => N.leaf) h
  have hsi : X.s = Y.s → X.I.map ItT.s = Y.I.map ItT.s := fun h => congrArg (fun N => N.I) h
  have hsk : X.s = Y.s → X.K.map KiT.s = Y.K.map KiT.s := fun h => congrArg (fun N => N.K) h
  have hin : X.s = Y.s → X.iN = Y.iN := fun h => by
    have h1 := congrArg List.length (hsi h)
    rw [List.length_map, List.length_map, hX.ilen, hY.ilen] at h1
    exact h1
  have hkn : X.s = Y.s → X.kN = Y.kN := fun h => by
    have h1 := congrArg List.length (hsk h)
    rw [List.length_map, List.length_map, hX.klen, hY.klen] at h1
    exact h1
  clear hX hY hb0 ha1 ha2 h63
  obtain ⟨⟨m0, m1, m2⟩, -⟩ := hn1
  obtain ⟨⟨n0, n1, n2⟩, -⟩ := hn2
  go_enter Try.func15, Try.ntmps15
  obtain ⟨xl, hxl⟩ : ∃ b, X.leaf = b := ⟨_, rfl⟩
  obtain ⟨yl, hyl⟩ : ∃ b, Y.leaf = b := ⟨_, rfl⟩
  by_cases hle : xl = yl
  · by_cases hie : X.iN = Y.iN
    · by_cases hke : X.kN = Y.kN
      · subst hle
        have HXL1 := Lib.hid hxl
        have HYL1 := Lib.hid hyl
        have HIE := Lib.hid hie
        have HKE := Lib.hid hke
        have HSI := Lib.hid hsi
        have HSK := Lib.hid hsk
        rw [hxl] at m0 hb HN1 HXL HYL HN2
        rw [hyl, ← hie, ← hke] at n0 n1 n2 hb HN2 HXL HYL HN1
        rw [hxl, hyl, ← hie, ← hke]
        have HIK := Lib.hid (And.intro hie hke)
        clear hxl hyl hie hke hsl hsi hsk hin hkn
        obtain ⟨N, hN⟩ : ∃ N, X.iN = N := ⟨_, rfl⟩
        obtain ⟨M, hM⟩ : ∃ M, X.kN = M := ⟨_, rfl⟩
        have HNN := Lib.hid hN
        have HMM := Lib.hid hM
        rw [hN] at hi63 m1 n1 hb HN1 HN2 HXL HYL ⊢
        rw [hM] at hk63 m2 n2 hb HN1 HN2 HXL HYL ⊢
        clear hN hM
        go_upto_region 3 with fail
        generalize (w.alloc (.cells #[.bool xl, .slice X.iA N X.iC, .slice X.kA M X.kC] 25)).alloc (.cells #[.bool xl, .slice Y.iA N Y.iC, .slice Y.kA M Y.kC] 25) = W1 at *
        have hsz := hb.size
        have hsz0 : w.heap.size ≤ W1.heap.size := hsz
        go_wp2_with fail
        go_loopw [5] (fun y wr => ∃ i : Nat, i ≤ N ∧ y = .int .i64 i ∧ Hid ((X.I.take i).map ItT.s = (Y.I.take i).map ItT.s) ∧ Below W1.heap.size W1 wr) (fun y _ => N - (intOf y).toNat)
        case atStart => exact ⟨0, Nat.zero_le _, rfl, Lib.hid rfl, Below.refl _ _⟩
        case round =>
          clear m0 m1 m2 n0 n1 n2
          obtain ⟨i, hi, rfl, HPR, hbr⟩ := hrel
          rename World => wr
          obtain ⟨⟨m0, m1, m2⟩, -⟩ := HN1.out.later hbr
          obtain ⟨⟨n0, n1, n2⟩, -⟩ := HN2.out.later hbr
          have hsr := hbr.size
          by_cases hlt : i < N
          · obtain ⟨b1, f1, x, hxA, hb1, hx, x0, x1, x2, x3⟩ := it_at (HXL.out.later (hbr.mono (Nat.le_trans hB hsz))).irow (show i < X.iN by rw [HNN.out]; exact hlt)
            obtain ⟨b2, f2, y, hyA, hb2, hy, y0, y1, y2, y3⟩ := it_at (HYL.out.later (hbr.mono (Nat.le_trans hB hsz))).irow (show i < Y.iN by rw [← HIK.out.1, HNN.out]; exact hlt)
            rw [hxA] at m1
            rw [hyA] at n1
            have hxo := HXL.out.items x (List.mem_of_getElem? hx)
            have hyo := HYL.out.items y (List.mem_of_getElem? hy)
            have hcS := fun W (h : Below wr.heap.size wr W) => rSameItem_any x y B W (hxo.later ((hbr.trans (h.mono hsr)).mono (Nat.le_trans hB hsz))) (hyo.later ((hbr.trans (h.mono hsr)).mono (Nat.le_trans hB hsz))) (Nat.le_trans hB (Nat.le_trans hsz (Nat.le_trans hsr h.size)))
            have hlt' : (i : Int) < (N : Int) := by omega
            have hi0 : (0 : Int) ≤ (i : Int) := by omega
            have hXr : ∀ W, Below wr.heap.size wr W → W.cell? ⟨w.heap.size, 1, none⟩ = some (.slice (some ⟨b1, f1, none⟩) N X.iC) := fun W h => mkept_later h m1
            have hYr : ∀ W, Below wr.heap.size wr W → W.cell? ⟨w.heap.size + 1, 1, none⟩ = some (.slice (some ⟨b2, f2, none⟩) N Y.iC) := fun W h => mkept_later h n1
            have hXc0 : ∀ W, Below wr.heap.size wr W → W.cell? ⟨b1, f1 + i * 4, none⟩ = some (.slice x.k.A x.k.n x.k.c) := fun W h => mkept_later h x0
            have hXc1 : ∀ W, Below wr.heap.size wr W → W.cell? ⟨b1, f1 + i * 4 + 1, none⟩ = some (.slice x.v.A x.v.n x.v.c) := fun W h => mkept_later h x1
            have hXc2 : ∀ W, Below wr.heap.size wr W → W.cell? ⟨b1, f1 + i * 4 + 2, none⟩ = some (.bool x.b) := fun W h => mkept_later h x2
            have hXc3 : ∀ W, Below wr.heap.size wr W → W.cell? ⟨b1, f1 + i * 4 + 3, none⟩ = some (.int .i64 x.n) := fun W h => mkept_later h x3
            have hYc0 : ∀ W, Below wr.heap.size wr W → W.cell? ⟨b2, f2 + i * 4, none⟩ = some (.slice y.k.A y.k.n y.k.c) := fun W h => mkept_later h y0
            have hYc1 : ∀ W, Below wr.heap.size wr W → W.cell? ⟨b2, f2 + i * 4 + 1, none⟩ = some (.slice y.v.A y.v.n y.v.c) := fun W h => mkept_later h y1
            have hYc2 : ∀ W, Below wr.heap.size wr W → W.cell? ⟨b2, f2 + i * 4 + 2, none⟩ = some (.bool y.b) := fun W h => mkept_later h y2
            have hYc3 : ∀ W, Below wr.heap.size wr W → W.cell? ⟨b2, f2 + i * 4 + 3, none⟩ = some (.int .i64 y.n) := fun W h => mkept_later h y3
            by_cases hq : x.eqB y = true
            · have HNX : Hid ((X.I.take (i + 1)).map ItT.s = (Y.I.take (i + 1)).map ItT.s) := Lib.hid (map_take_s ItT.s HPR.out hx hy (it_eqB.1 hq))
              rw [hq] at hcS
              have HcS := Lib.hid hcS
              clear hx hy hq hxo hyo x0 x1 x2 x3 y0 y1 y2 y3 hcS hxA hyA HPR
              go_upto_region 6 with fail
              clear m0 m1 m2 n0 n1 n2
              refine wp_region_held_drew (S := fun W => Below wr.heap.size wr W) (by kernel_rfl) (below_drewN (Below.refl _ _) 1) (fun hHeld => ?_)
              refine rg_in 0 rfl (by kernel_rfl) (by kernel_rfl) (by kernel_rfl) (by rfl) (v := ?_) (fun _ _ _ h => h) hHeld (fun w hSw => ?_) ?_
              rotate_left
              · (try dsimp only at hSw); go_simp <;> (with_reducible rfl)
              (try simp only [Act.put, List.setIfInBounds_toArray, List.set_cons_zero, List.set_cons_succ])
              refine rg_in 1 rfl (by kernel_rfl) (by kernel_rfl) (by kernel_rfl) (by rfl) (v := ?_) (fun _ _ _ h => h) hHeld (fun w hSw => ?_) ?_
              rotate_left
              · (try dsimp only at hSw); go_simp <;> (with_reducible rfl)
              (try simp only [Act.put, List.setIfInBounds_toArray, List.set_cons_zero, List.set_cons_succ])
              refine rg_in 2 rfl (by kernel_rfl) (by kernel_rfl) (by kernel_rfl) (by rfl) (v := ?_) (fun _ _ _ h => h) hHeld (fun w hSw => ?_) ?_
              rotate_left
              · (try dsimp only at hSw); go_simp <;> (with_reducible rfl)
              (try simp only [Act.put, List.setIfInBounds_toArray, List.set_cons_zero, List.set_cons_succ])
              refine rg_in 3 rfl (by kernel_rfl) (by kernel_rfl) (by kernel_rfl) (by rfl) (v := ?_) (fun _ _ _ h => h) hHeld (fun w hSw => ?_) ?_
              rotate_left
              · (try dsimp only at hSw); go_simp <;> (with_reducible rfl)
              (try simp only [Act.put, List.setIfInBounds_toArray, List.set_cons_zero, List.set_cons_succ])
              refine rg_in 4 rfl (by kernel_rfl) (by kernel_rfl) (by kernel_rfl) (by rfl) (v := ?_) (fun _ _ _ h => h) hHeld (fun w hSw => ?_) ?_
              rotate_left
              · (try dsimp only at hSw); go_simp <;> (with_reducible rfl)
              (try simp only [Act.put, List.setIfInBounds_toArray, List.set_cons_zero, List.set_cons_succ])
              refine rg_in 5 rfl (by kernel_rfl) (by kernel_rfl) (by kernel_rfl) (by rfl) (v := ?_) (fun _ _ _ h => h) hHeld (fun w hSw => ?_) ?_
              rotate_left
              · (try dsimp only at hSw); go_simp <;> (with_reducible rfl)
              (try simp only [Act.put, List.setIfInBounds_toArray, List.set_cons_zero, List.set_cons_succ])
              refine rg_in 6 rfl (by kernel_rfl) (by kernel_rfl) (by kernel_rfl) (by rfl) (v := ?_) (fun _ _ _ h => h) hHeld (fun w hSw => ?_) ?_
              rotate_left
              · (try dsimp only at hSw); go_simp <;> (with_reducible rfl)
              (try simp only [Act.put, List.setIfInBounds_toArray, List.set_cons_zero, List.set_cons_succ])
              refine rg_in 7 rfl (by kernel_rfl) (by kernel_rfl) (by kernel_rfl) (by rfl) (v := ?_) (fun _ _ _ h => h) hHeld (fun w hSw => ?_) ?_
              rotate_left
              · (try dsimp only at hSw); go_simp <;> (with_reducible rfl)
              (try simp only [Act.put, List.setIfInBounds_toArray, List.set_cons_zero, List.set_cons_succ])
              refine rg_in 8 rfl (by kernel_rfl) (by kernel_rfl) (by kernel_rfl) (by rfl) (v := ?_) (fun _ _ _ h => h) hHeld (fun w hSw => ?_) ?_
              rotate_left
              · (try dsimp only at hSw); go_simp <;> (with_reducible rfl)
              (try simp only [Act.put, List.setIfInBounds_toArray, List.set_cons_zero, List.set_cons_succ])
              refine rg_in 9 rfl (by kernel_rfl) (by kernel_rfl) (by kernel_rfl) (by rfl) (v := ?_) (fun _ _ _ h => h) hHeld (fun w hSw => ?_) ?_
              rotate_left
              · (try dsimp only at hSw); go_simp <;> (with_reducible rfl)
              (try simp only [Act.put, List.setIfInBounds_toArray, List.set_cons_zero, List.set_cons_succ])
              refine rg_do 10 rfl (by kernel_rfl) (by rfl) (fun K hK => ?_)
              go_simp
              (go_at_call 40; (with_reducible refine (HcS.out _ hHeld).mono ?_); (rintro e w110 ⟨rfl, hb9⟩))
              refine hK.out _ _ (S_call4 hb9 hHeld) (fun hHeld => ?_)
              clear hK K
              (try simp only [Act.put, List.setIfInBounds_toArray, List.set_cons_zero, List.set_cons_succ])
              refine rg_in 11 rfl (by kernel_rfl) (by kernel_rfl) (by kernel_rfl) (by rfl) (v := ?_) (fun _ _ _ h => h) hHeld (fun w hSw => ?_) ?_
              rotate_left
              · (try dsimp only at hSw); go_simp <;> (with_reducible rfl)
              (try simp only [Act.put, List.setIfInBounds_toArray, List.set_cons_zero, List.set_cons_succ])
              refine wpAnyH_done (by kernel_rfl) ?_ _
              have hbn := hHeld
              clear hHeld hXc0 hXc1 hXc2 hXc3 hYc0 hYc1 hYc2 hYc3 hXr hYr
              go_wp2_with fail
              go_roundw
              case rel => first | exact ⟨i + 1, by omega, by go_num, HNX, hbr.trans (hbn.mono hsr)⟩ | exact ⟨_, ⟨i + 1, by omega, by go_num, HNX, hbr.trans (hbn.mono hsr)⟩, rfl⟩
              case measure => simp [intOf]; omega
            · have hq : x.eqB y = false := by simpa using hq
              have HNO : Hid (¬ X.s = Y.s) := Lib.hid (fun h => map_ne_s ItT.s hx hy (fun e => by rw [it_eqB.2 e] at hq; cases hq) (HSI.out h))
              rw [hq] at hcS
              have HcS := Lib.hid hcS
              clear hx hy hq hxo hyo x0 x1 x2 x3 y0 y1 y2 y3 hcS hxA hyA HPR
              go_upto_region 6 with fail
              clear m0 m1 m2 n0 n1 n2
              refine wp_region_held_drew (S := fun W => Below wr.heap.size wr W) (by kernel_rfl) (below_drewN (Below.refl _ _) 1) (fun hHeld => ?_)
              refine rg_in 0 rfl (by kernel_rfl) (by kernel_rfl) (by kernel_rfl) (by rfl) (v := ?_) (fun _ _ _ h => h) hHeld (fun w hSw => ?_) ?_
              rotate_left
              · (try dsimp only at hSw); go_simp <;> (with_reducible rfl)
              (try simp only [Act.put, List.setIfInBounds_toArray, List.set_cons_zero, List.set_cons_succ])
              refine rg_in 1 rfl (by kernel_rfl) (by kernel_rfl) (by kernel_rfl) (by rfl) (v := ?_) (fun _ _ _ h => h) hHeld (fun w hSw => ?_) ?_
              rotate_left
              · (try dsimp only at hSw); go_simp <;> (with_reducible rfl)
              (try simp only [Act.put, List.setIfInBounds_toArray, List.set_cons_zero, List.set_cons_succ])
              refine rg_in 2 rfl (by kernel_rfl) (by kernel_rfl) (by kernel_rfl) (by rfl) (v := ?_) (fun _ _ _ h => h) hHeld (fun w hSw => ?_) ?_
              rotate_left
              · (try dsimp only at hSw); go_simp <;> (with_reducible rfl)
              (try simp only [Act.put, List.setIfInBounds_toArray, List.set_cons_zero, List.set_cons_succ])
              refine rg_in 3 rfl (by kernel_rfl) (by kernel_rfl) (by kernel_rfl) (by rfl) (v := ?_) (fun _ _ _ h => h) hHeld (fun w hSw => ?_) ?_
              rotate_left
              · (try dsimp only at hSw); go_simp <;> (with_reducible rfl)
              (try simp only [Act.put, List.setIfInBounds_toArray, List.set_cons_zero, List.set_cons_succ])
              refine rg_in 4 rfl (by kernel_rfl) (by kernel_rfl) (by kernel_rfl) (by rfl) (v := ?_) (fun _ _ _ h => h) hHeld (fun w hSw => ?_) ?_
              rotate_left
              · (try dsimp only at hSw); go_simp <;> (with_reducible rfl)
              (try simp only [Act.put, List.setIfInBounds_toArray, List.set_cons_zero, List.set_cons_succ])
              refine rg_in 5 rfl (by kernel_rfl) (by kernel_rfl) (by kernel_rfl) (by rfl) (v := ?_) (fun _ _ _ h => h) hHeld (fun w hSw => ?_) ?_
              rotate_left
              · (try dsimp only at hSw); go_simp <;> (with_reducible rfl)
              (try simp only [Act.put, List.setIfInBounds_toArray, List.set_cons_zero, List.set_cons_succ])
              refine rg_in 6 rfl (by kernel_rfl) (by kernel_rfl) (by kernel_rfl) (by rfl) (v := ?_) (fun _ _ _ h => h) hHeld (fun w hSw => ?_) ?_
              rotate_left
              · (try dsimp only at hSw); go_simp <;> (with_reducible rfl)
              (try simp only [Act.put, List.setIfInBounds_toArray, List.set_cons_zero, List.set_cons_succ])
              refine rg_in 7 rfl (by kernel_rfl) (by kernel_rfl) (by kernel_rfl) (by rfl) (v := ?_) (fun _ _ _ h => h) hHeld (fun w hSw => ?_) ?_
              rotate_left
              · (try dsimp only at hSw); go_simp <;> (with_reducible rfl)
              (try simp only [Act.put, List.setIfInBounds_toArray, List.set_cons_zero, List.set_cons_succ])
              refine rg_in 8 rfl (by kernel_rfl) (by kernel_rfl) (by kernel_rfl) (by rfl) (v := ?_) (fun _ _ _ h => h) hHeld (fun w hSw => ?_) ?_
              rotate_left
              · (try dsimp only at hSw); go_simp <;> (with_reducible rfl)
              (try simp only [Act.put, List.setIfInBounds_toArray, List.set_cons_zero, List.set_cons_succ])
              refine rg_in 9 rfl (by kernel_rfl) (by kernel_rfl) (by kernel_rfl) (by rfl) (v := ?_) (fun _ _ _ h => h) hHeld (fun w hSw => ?_) ?_
              rotate_left
              · (try dsimp only at hSw); go_simp <;> (with_reducible rfl)
              (try simp only [Act.put, List.setIfInBounds_toArray, List.set_cons_zero, List.set_cons_succ])
              refine rg_do 10 rfl (by kernel_rfl) (by rfl) (fun K hK => ?_)
              go_simp
              (go_at_call 40; (with_reducible refine (HcS.out _ hHeld).mono ?_); (rintro e w110 ⟨rfl, hb9⟩))
              refine hK.out _ _ (S_call4 hb9 hHeld) (fun hHeld => ?_)
              clear hK K
              (try simp only [Act.put, List.setIfInBounds_toArray, List.set_cons_zero, List.set_cons_succ])
              refine rg_in 11 rfl (by kernel_rfl) (by kernel_rfl) (by kernel_rfl) (by rfl) (v := ?_) (fun _ _ _ h => h) hHeld (fun w hSw => ?_) ?_
              rotate_left
              · (try dsimp only at hSw); go_simp <;> (with_reducible rfl)
              (try simp only [Act.put, List.setIfInBounds_toArray, List.set_cons_zero, List.set_cons_succ])
              refine wpAnyH_done (by kernel_rfl) ?_ _
              have hbq := (hb.trans (hbr.mono hsz)).trans (hHeld.mono (Nat.le_trans hsz0 hsr))
              clear hHeld hXc0 hXc1 hXc2 hXc3 hYc0 hYc1 hYc2 hYc3 hXr hYr
              go_wp2
              go_ret
              exact ⟨_, rfl, no_iff HNO.out, hbq⟩
          · obtain rfl : N = i := by omega
            have HIS : Hid (X.I.map ItT.s = Y.I.map ItT.s) := Lib.hid (by
              have h := HPR.out
              rw [List.take_of_length_le (by rw [HLX.out.1, HNN.out]; exact Nat.le_refl _), List.take_of_length_le (by rw [HLY.out.1, ← HIK.out.1, HNN.out]; exact Nat.le_refl _)] at h
              exact h)
            have hbz := hb.trans (hbr.mono hsz)
            clear hlt hi HPR
            go_wp2_with fail
            go_loopw [6] (fun y wx => ∃ i : Nat, i ≤ M ∧ y = .int .i64 i ∧ Hid ((X.K.take i).map KiT.s = (Y.K.take i).map KiT.s) ∧ Below wr.heap.size wr wx) (fun y _ => M - (intOf y).toNat)
            case atStart => exact ⟨0, Nat.zero_le _, rfl, Lib.hid rfl, Below.refl _ _⟩
            case round =>
              clear m0 m1 m2 n0 n1 n2
              obtain ⟨i, hi, rfl, HPR, hbx⟩ := hrel
              rename World => wx
              have hbrx := bel_next hbr hbx
              obtain ⟨⟨m0, m1, m2⟩, -⟩ := HN1.out.later hbrx
              obtain ⟨⟨n0, n1, n2⟩, -⟩ := HN2.out.later hbrx
              have hbzx := hbz.trans (hbx.mono (Nat.le_trans hsz0 hsr))
              by_cases hlt : i < M
              · obtain ⟨b1, f1, x, hxA, hb1, hx, x0, x1, x2, x3, x4, x5, x6, x7⟩ := ki_at (HXL.out.later (hbrx.mono (Nat.le_trans hB hsz))).krow (show i < X.kN by rw [HMM.out]; exact hlt)
                obtain ⟨b2, f2, y, hyA, hb2, hy, y0, y1, y2, y3, y4, y5, y6, y7⟩ := ki_at (HYL.out.later (hbrx.mono (Nat.le_trans hB hsz))).krow (show i < Y.kN by rw [← HIK.out.2, HMM.out]; exact hlt)
                rw [hxA] at m2
                rw [hyA] at n2
                have hxo := (HXL.out.later (hbrx.mono (Nat.le_trans hB hsz))).kids x (List.mem_of_getElem? hx)
                have hyo := (HYL.out.later (hbrx.mono (Nat.le_trans hB hsz))).kids y (List.mem_of_getElem? hy)
                have hlt' : (i : Int) < (M : Int) := by omega
                have hi0 : (0 : Int) ≤ (i : Int) := by omega
                have k1 := fun W (h : Below wx.heap.size wx W) => run_bytes_string (P := Try.prog) Try.underlying32 Try.underlying5 Try.underlying9 W x.k.A x.k.n x.k.c B x.k.l (hxo.key.later (h.mono (Nat.le_trans hB (Nat.le_trans hsz hbrx.size)))).here
                have k2 := fun W (h : Below wx.heap.size wx W) => run_bytes_string (P := Try.prog) Try.underlying32 Try.underlying5 Try.underlying9 W y.k.A y.k.n y.k.c B y.k.l (hyo.key.later (h.mono (Nat.le_trans hB (Nat.le_trans hsz hbrx.size)))).here
                have t1 := bofL_beq x.k.l y.k.l
                have hokr := And.intro hxo.red hyo.red
                have hmx := fun (h : KiT.s x = KiT.s y) => map_take_s KiT.s HPR.out hx hy h
                have hmn := fun (h : ¬ KiT.s x = KiT.s y) => (fun e => map_ne_s KiT.s hx hy h (HSK.out e) : ¬ X.s = Y.s)
                clear hx hy hxo hyo hxA hyA HPR
                obtain ⟨⟨kA, kn, kc, kl⟩, xa, r⟩ := x
                obtain ⟨⟨jA, jn, jc, jl⟩, ya, q⟩ := y
                simp only [KiT.s] at x0 x1 x2 x3 x4 x5 x6 x7 y0 y1 y2 y3 y4 y5 y6 y7 k1 k2 t1 hokr hmx hmn
                by_cases hkk : kl = jl
                · have hsb : sameB kl jl = true := sameB_iff2.2 hkk
                  rw [hsb] at t1
                  have t2 : ((ofL kl).toList != (ofL jl).toList) = false := by rw [bne, t1]; rfl
                  generalize ofL kl = s1 at *
                  generalize ofL jl = s2 at *
                  by_cases haa : xa = ya
                  · by_cases hrr : r = q
                    · have HNX : Hid ((X.K.take (i + 1)).map KiT.s = (Y.K.take (i + 1)).map KiT.s) := Lib.hid (hmx (by rw [hkk, haa, hrr]))
                      subst haa hrr
                      clear hmx hmn hokr hkk hsb
                      go_upto_region 11 with fail
                      have rm2 := fun W (h : Below wx.heap.size wx W) => mkept_later h m2
                      have rn2 := fun W (h : Below wx.heap.size wx W) => mkept_later h n2
                      have rx0 := fun W (h : Below wx.heap.size wx W) => mkept_later h x0
                      have rx1 := fun W (h : Below wx.heap.size wx W) => mkept_later h x1
                      have rx2 := fun W (h : Below wx.heap.size wx W) => mkept_later h x2
                      have rx3 := fun W (h : Below wx.heap.size wx W) => mkept_later h x3
                      have rx4 := fun W (h : Below wx.heap.size wx W) => mkept_later h x4
                      have rx5 := fun W (h : Below wx.heap.size wx W) => mkept_later h x5
                      have rx6 := fun W (h : Below wx.heap.size wx W) => mkept_later h x6
                      have rx7 := fun W (h : Below wx.heap.size wx W) => mkept_later h x7
                      have ry0 := fun W (h : Below wx.heap.size wx W) => mkept_later h y0
                      have ry1 := fun W (h : Below wx.heap.size wx W) => mkept_later h y1
                      have ry2 := fun W (h : Below wx.heap.size wx W) => mkept_later h y2
                      have ry3 := fun W (h : Below wx.heap.size wx W) => mkept_later h y3
                      have ry4 := fun W (h : Below wx.heap.size wx W) => mkept_later h y4
                      have ry5 := fun W (h : Below wx.heap.size wx W) => mkept_later h y5
                      have ry6 := fun W (h : Below wx.heap.size wx W) => mkept_later h y6
                      have ry7 := fun W (h : Below wx.heap.size wx W) => mkept_later h y7
                      clear m2 n2 x0 x1 x2 x3 x4 x5 x6 x7 y0 y1 y2 y3 y4 y5 y6 y7 m0 m1 n0 n1
                      refine wp_region_held_drew (S := fun W => Below wx.heap.size wx W) (by kernel_rfl) (below_drewN (Below.refl _ _) 1) (fun hHeld => ?_)
                      refine rg_in 0 rfl (by kernel_rfl) (by kernel_rfl) (by kernel_rfl) (by rfl) (v := ?_) (fun _ _ _ h => h) hHeld (fun w hSw => ?_) ?_
                      rotate_left
                      · (try dsimp only at hSw); go_simp <;> (with_reducible rfl)
                      (try simp only [Act.put, List.setIfInBounds_toArray, List.set_cons_zero, List.set_cons_succ])
                      refine rg_in 1 rfl (by kernel_rfl) (by kernel_rfl) (by kernel_rfl) (by rfl) (v := ?_) (fun _ _ _ h => h) hHeld (fun w hSw => ?_) ?_
                      rotate_left
                      · (try dsimp only at hSw); go_simp <;> (with_reducible rfl)
                      (try simp only [Act.put, List.setIfInBounds_toArray, List.set_cons_zero, List.set_cons_succ])
                      refine rg_in 2 rfl (by kernel_rfl) (by kernel_rfl) (by kernel_rfl) (by rfl) (v := ?_) (fun _ _ _ h => h) hHeld (fun w hSw => ?_) ?_
                      rotate_left
                      · (try dsimp only at hSw); go_simp <;> (with_reducible rfl)
                      (try simp only [Act.put, List.setIfInBounds_toArray, List.set_cons_zero, List.set_cons_succ])
                      refine rg_in 3 rfl (by kernel_rfl) (by kernel_rfl) (by kernel_rfl) (by rfl) (v := ?_) (fun _ _ _ h => h) hHeld (fun w hSw => ?_) ?_
                      rotate_left
                      · (try dsimp only at hSw); go_simp <;> (with_reducible rfl)
                      (try simp only [Act.put, List.setIfInBounds_toArray, List.set_cons_zero, List.set_cons_succ])
                      refine rg_in 4 rfl (by kernel_rfl) (by kernel_rfl) (by kernel_rfl) (by rfl) (v := ?_) (fun _ _ _ h => h) hHeld (fun w hSw => ?_) ?_
                      rotate_left
                      · (try dsimp only at hSw); go_simp <;> (with_reducible rfl)
                      (try simp only [Act.put, List.setIfInBounds_toArray, List.set_cons_zero, List.set_cons_succ])
                      refine rg_in 5 rfl (by kernel_rfl) (by kernel_rfl) (by kernel_rfl) (by rfl) (v := ?_) (fun _ _ _ h => h) hHeld (fun w hSw => ?_) ?_
                      rotate_left
                      · (try dsimp only at hSw); go_simp <;> (with_reducible rfl)
                      (try simp only [Act.put, List.setIfInBounds_toArray, List.set_cons_zero, List.set_cons_succ])
                      refine rg_in 6 rfl (by kernel_rfl) (by kernel_rfl) (by kernel_rfl) (by rfl) (v := ?_) (fun _ _ _ h => h) hHeld (fun w hSw => ?_) ?_
                      rotate_left
                      · (try dsimp only at hSw); go_simp <;> (with_reducible rfl)
                      (try simp only [Act.put, List.setIfInBounds_toArray, List.set_cons_zero, List.set_cons_succ])
                      refine rg_in 7 rfl (by kernel_rfl) (by kernel_rfl) (by kernel_rfl) (by rfl) (v := ?_) (fun _ _ _ h => h) hHeld (fun w hSw => ?_) ?_
                      rotate_left
                      · (try dsimp only at hSw); go_simp <;> (with_reducible rfl)
                      (try simp only [Act.put, List.setIfInBounds_toArray, List.set_cons_zero, List.set_cons_succ])
                      refine rg_in 8 rfl (by kernel_rfl) (by kernel_rfl) (by kernel_rfl) (by rfl) (v := ?_) (fun _ _ _ h => h) hHeld (fun w hSw => ?_) ?_
                      rotate_left
                      · (try dsimp only at hSw); go_simp <;> (with_reducible rfl)
                      (try simp only [Act.put, List.setIfInBounds_toArray, List.set_cons_zero, List.set_cons_succ])
                      refine rg_in 9 rfl (by kernel_rfl) (by kernel_rfl) (by kernel_rfl) (by rfl) (v := ?_) (fun _ _ _ h => h) hHeld (fun w hSw => ?_) ?_
                      rotate_left
                      · (try dsimp only at hSw); go_simp <;> (with_reducible rfl)
                      (try simp only [Act.put, List.setIfInBounds_toArray, List.set_cons_zero, List.set_cons_succ])
                      refine rg_in 10 rfl (by kernel_rfl) (by kernel_rfl) (by kernel_rfl) (by rfl) (v := ?_) (fun _ _ _ h => h) hHeld (fun w hSw => ?_) ?_
                      rotate_left
                      · (try dsimp only at hSw); go_simp <;> (with_reducible rfl)
                      (try simp only [Act.put, List.setIfInBounds_toArray, List.set_cons_zero, List.set_cons_succ])
                      refine rg_in 11 rfl (by kernel_rfl) (by kernel_rfl) (by kernel_rfl) (by rfl) (v := ?_) (fun _ _ _ h => h) hHeld (fun w hSw => ?_) ?_
                      rotate_left
                      · (try dsimp only at hSw); go_simp <;> (with_reducible rfl)
                      (try simp only [Act.put, List.setIfInBounds_toArray, List.set_cons_zero, List.set_cons_succ])
                      refine rg_in 12 rfl (by kernel_rfl) (by kernel_rfl) (by kernel_rfl) (by rfl) (v := ?_) (fun _ _ _ h => h) hHeld (fun w hSw => ?_) ?_
                      rotate_left
                      · (try dsimp only at hSw); go_simp <;> (with_reducible rfl)
                      (try simp only [Act.put, List.setIfInBounds_toArray, List.set_cons_zero, List.set_cons_succ])
                      refine rg_in 13 rfl (by kernel_rfl) (by kernel_rfl) (by kernel_rfl) (by rfl) (v := ?_) (fun _ _ _ h => h) hHeld (fun w hSw => ?_) ?_
                      rotate_left
                      · (try dsimp only at hSw); go_simp <;> (with_reducible rfl)
                      (try simp only [Act.put, List.setIfInBounds_toArray, List.set_cons_zero, List.set_cons_succ])
                      refine rg_in 14 rfl (by kernel_rfl) (by kernel_rfl) (by kernel_rfl) (by rfl) (v := ?_) (fun _ _ _ h => h) hHeld (fun w hSw => ?_) ?_
                      rotate_left
                      · (try dsimp only at hSw); go_simp <;> (with_reducible rfl)
                      (try simp only [Act.put, List.setIfInBounds_toArray, List.set_cons_zero, List.set_cons_succ])
                      refine rg_in 15 rfl (by kernel_rfl) (by kernel_rfl) (by kernel_rfl) (by rfl) (v := ?_) (fun _ _ _ h => h) hHeld (fun w hSw => ?_) ?_
                      rotate_left
                      · (try dsimp only at hSw); go_simp <;> (with_reducible rfl)
                      (try simp only [Act.put, List.setIfInBounds_toArray, List.set_cons_zero, List.set_cons_succ])
                      refine rg_in 16 rfl (by kernel_rfl) (by kernel_rfl) (by kernel_rfl) (by rfl) (v := ?_) (fun _ _ _ h => h) hHeld (fun w hSw => ?_) ?_
                      rotate_left
                      · (try dsimp only at hSw); go_simp <;> (with_reducible rfl)
                      (try simp only [Act.put, List.setIfInBounds_toArray, List.set_cons_zero, List.set_cons_succ])
                      refine rg_in 17 rfl (by kernel_rfl) (by kernel_rfl) (by kernel_rfl) (by rfl) (v := ?_) (fun _ _ _ h => h) hHeld (fun w hSw => ?_) ?_
                      rotate_left
                      · (try dsimp only at hSw); go_simp <;> (with_reducible rfl)
                      (try simp only [Act.put, List.setIfInBounds_toArray, List.set_cons_zero, List.set_cons_succ])
                      refine rg_in 18 rfl (by kernel_rfl) (by kernel_rfl) (by kernel_rfl) (by rfl) (v := ?_) (fun _ _ _ h => h) hHeld (fun w hSw => ?_) ?_
                      rotate_left
                      · (try dsimp only at hSw); go_simp <;> (with_reducible rfl)
                      (try simp only [Act.put, List.setIfInBounds_toArray, List.set_cons_zero, List.set_cons_succ])
                      refine rg_in 19 rfl (by kernel_rfl) (by kernel_rfl) (by kernel_rfl) (by rfl) (v := ?_) (fun _ _ _ h => h) hHeld (fun w hSw => ?_) ?_
                      rotate_left
                      · (try dsimp only at hSw); go_simp <;> (with_reducible rfl)
                      (try simp only [Act.put, List.setIfInBounds_toArray, List.set_cons_zero, List.set_cons_succ])
                      refine rg_in 20 rfl (by kernel_rfl) (by kernel_rfl) (by kernel_rfl) (by rfl) (v := ?_) (fun _ _ _ h => h) hHeld (fun w hSw => ?_) ?_
                      rotate_left
                      · (try dsimp only at hSw); go_simp <;> (with_reducible rfl)
                      (try simp only [Act.put, List.setIfInBounds_toArray, List.set_cons_zero, List.set_cons_succ])
                      refine rg_in 21 rfl (by kernel_rfl) (by kernel_rfl) (by kernel_rfl) (by rfl) (v := ?_) (fun _ _ _ h => h) hHeld (fun w hSw => ?_) ?_
                      rotate_left
                      · (try dsimp only at hSw); go_simp <;> (with_reducible rfl)
                      (try simp only [Act.put, List.setIfInBounds_toArray, List.set_cons_zero, List.set_cons_succ])
                      refine rg_in 22 rfl (by kernel_rfl) (by kernel_rfl) (by kernel_rfl) (by rfl) (v := ?_) (fun _ _ _ h => h) hHeld (fun w hSw => ?_) ?_
                      rotate_left
                      · (try dsimp only at hSw); go_simp <;> (with_reducible rfl)
                      (try simp only [Act.put, List.setIfInBounds_toArray, List.set_cons_zero, List.set_cons_succ])
                      refine rg_in 23 rfl (by kernel_rfl) (by kernel_rfl) (by kernel_rfl) (by rfl) (v := ?_) (fun _ _ _ h => h) hHeld (fun w hSw => ?_) ?_
                      rotate_left
                      · (try dsimp only at hSw); go_simp <;> (with_reducible rfl)
                      (try simp only [Act.put, List.setIfInBounds_toArray, List.set_cons_zero, List.set_cons_succ])
                      refine rg_in 24 rfl (by kernel_rfl) (by kernel_rfl) (by kernel_rfl) (by rfl) (v := ?_) (fun _ _ _ h => h) hHeld (fun w hSw => ?_) ?_
                      rotate_left
                      · (try dsimp only at hSw); go_simp <;> (with_reducible rfl)
                      (try simp only [Act.put, List.setIfInBounds_toArray, List.set_cons_zero, List.set_cons_succ])
                      refine rg_in 25 rfl (by kernel_rfl) (by kernel_rfl) (by kernel_rfl) (by rfl) (v := ?_) (fun _ _ _ h => h) hHeld (fun w hSw => ?_) ?_
                      rotate_left
                      · (try dsimp only at hSw); go_simp <;> (with_reducible rfl)
                      (try simp only [Act.put, List.setIfInBounds_toArray, List.set_cons_zero, List.set_cons_succ])
                      refine rg_in 26 rfl (by kernel_rfl) (by kernel_rfl) (by kernel_rfl) (by rfl) (v := ?_) (fun _ _ _ h => h) hHeld (fun w hSw => ?_) ?_
                      rotate_left
                      · (try dsimp only at hSw); go_simp <;> (with_reducible rfl)
                      (try simp only [Act.put, List.setIfInBounds_toArray, List.set_cons_zero, List.set_cons_succ])
                      refine rg_in 27 rfl (by kernel_rfl) (by kernel_rfl) (by kernel_rfl) (by rfl) (v := ?_) (fun _ _ _ h => h) hHeld (fun w hSw => ?_) ?_
                      rotate_left
                      · (try dsimp only at hSw); go_simp <;> (with_reducible rfl)
                      (try simp only [Act.put, List.setIfInBounds_toArray, List.set_cons_zero, List.set_cons_succ])
                      refine rg_in 28 rfl (by kernel_rfl) (by kernel_rfl) (by kernel_rfl) (by rfl) (v := ?_) (fun _ _ _ h => h) hHeld (fun w hSw => ?_) ?_
                      rotate_left
                      · (try dsimp only at hSw); go_simp <;> (with_reducible rfl)
                      (try simp only [Act.put, List.setIfInBounds_toArray, List.set_cons_zero, List.set_cons_succ])
                      refine rg_in 29 rfl (by kernel_rfl) (by kernel_rfl) (by kernel_rfl) (by rfl) (v := ?_) (fun _ _ _ h => h) hHeld (fun w hSw => ?_) ?_
                      rotate_left
                      · (try dsimp only at hSw); go_simp <;> (with_reducible rfl)
                      (try simp only [Act.put, List.setIfInBounds_toArray, List.set_cons_zero, List.set_cons_succ])
                      refine rg_in 30 rfl (by kernel_rfl) (by kernel_rfl) (by kernel_rfl) (by rfl) (v := ?_) (fun _ _ _ h => h) hHeld (fun w hSw => ?_) ?_
                      rotate_left
                      · (try dsimp only at hSw); go_simp <;> (with_reducible rfl)
                      (try simp only [Act.put, List.setIfInBounds_toArray, List.set_cons_zero, List.set_cons_succ])
                      refine rg_in 31 rfl (by kernel_rfl) (by kernel_rfl) (by kernel_rfl) (by rfl) (v := ?_) (fun _ _ _ h => h) hHeld (fun w hSw => ?_) ?_
                      rotate_left
                      · (try dsimp only at hSw); go_simp <;> (with_reducible rfl)
                      (try simp only [Act.put, List.setIfInBounds_toArray, List.set_cons_zero, List.set_cons_succ])
                      refine rg_in 32 rfl (by kernel_rfl) (by kernel_rfl) (by kernel_rfl) (by rfl) (v := ?_) (fun _ _ _ h => h) hHeld (fun w hSw => ?_) ?_
                      rotate_left
                      · (try dsimp only at hSw); go_simp <;> (with_reducible rfl)
                      (try simp only [Act.put, List.setIfInBounds_toArray, List.set_cons_zero, List.set_cons_succ])
                      refine rg_in 33 rfl (by kernel_rfl) (by kernel_rfl) (by kernel_rfl) (by rfl) (v := ?_) (fun _ _ _ h => h) hHeld (fun w hSw => ?_) ?_
                      rotate_left
                      · (try dsimp only at hSw); go_simp <;> (with_reducible rfl)
                      (try simp only [Act.put, List.setIfInBounds_toArray, List.set_cons_zero, List.set_cons_succ])
                      refine rg_in 34 rfl (by kernel_rfl) (by kernel_rfl) (by kernel_rfl) (by rfl) (v := ?_) (fun _ _ _ h => h) hHeld (fun w hSw => ?_) ?_
                      rotate_left
                      · (try dsimp only at hSw); go_simp <;> (with_reducible rfl)
                      (try simp only [Act.put, List.setIfInBounds_toArray, List.set_cons_zero, List.set_cons_succ])
                      refine rg_in 35 rfl (by kernel_rfl) (by kernel_rfl) (by kernel_rfl) (by rfl) (v := ?_) (fun _ _ _ h => h) hHeld (fun w hSw => ?_) ?_
                      rotate_left
                      · (try dsimp only at hSw); go_simp <;> (with_reducible rfl)
                      (try simp only [Act.put, List.setIfInBounds_toArray, List.set_cons_zero, List.set_cons_succ])
                      refine rg_in 36 rfl (by kernel_rfl) (by kernel_rfl) (by kernel_rfl) (by rfl) (v := ?_) (fun _ _ _ h => h) hHeld (fun w hSw => ?_) ?_
                      rotate_left
                      · (try dsimp only at hSw); go_simp <;> (with_reducible rfl)
                      (try simp only [Act.put, List.setIfInBounds_toArray, List.set_cons_zero, List.set_cons_succ])
                      refine rg_in 37 rfl (by kernel_rfl) (by kernel_rfl) (by kernel_rfl) (by rfl) (v := ?_) (fun _ _ _ h => h) hHeld (fun w hSw => ?_) ?_
                      rotate_left
                      · (try dsimp only at hSw); go_simp <;> (with_reducible rfl)
                      (try simp only [Act.put, List.setIfInBounds_toArray, List.set_cons_zero, List.set_cons_succ])
                      refine rg_in 38 rfl (by kernel_rfl) (by kernel_rfl) (by kernel_rfl) (by rfl) (v := ?_) (fun _ _ _ h => h) hHeld (fun w hSw => ?_) ?_
                      rotate_left
                      · (try dsimp only at hSw); go_simp <;> (with_reducible rfl)
                      (try simp only [Act.put, List.setIfInBounds_toArray, List.set_cons_zero, List.set_cons_succ])
                      refine rg_in 39 rfl (by kernel_rfl) (by kernel_rfl) (by kernel_rfl) (by rfl) (v := ?_) (fun _ _ _ h => h) hHeld (fun w hSw => ?_) ?_
                      rotate_left
                      · (try dsimp only at hSw); go_simp <;> (with_reducible rfl)
                      (try simp only [Act.put, List.setIfInBounds_toArray, List.set_cons_zero, List.set_cons_succ])
                      refine rg_in 40 rfl (by kernel_rfl) (by kernel_rfl) (by kernel_rfl) (by rfl) (v := ?_) (fun _ _ _ h => h) hHeld (fun w hSw => ?_) ?_
                      rotate_left
                      · (try dsimp only at hSw); go_simp <;> (with_reducible rfl)
                      (try simp only [Act.put, List.setIfInBounds_toArray, List.set_cons_zero, List.set_cons_succ])
                      refine rg_in 41 rfl (by kernel_rfl) (by kernel_rfl) (by kernel_rfl) (by rfl) (v := ?_) (fun _ _ _ h => h) hHeld (fun w hSw => ?_) ?_
                      rotate_left
                      · (try dsimp only at hSw); go_simp <;> (with_reducible rfl)
                      (try simp only [Act.put, List.setIfInBounds_toArray, List.set_cons_zero, List.set_cons_succ])
                      refine rg_in 42 rfl (by kernel_rfl) (by kernel_rfl) (by kernel_rfl) (by rfl) (v := ?_) (fun _ _ _ h => h) hHeld (fun w hSw => ?_) ?_
                      rotate_left
                      · (try dsimp only at hSw); go_simp <;> (with_reducible rfl)
                      (try simp only [Act.put, List.setIfInBounds_toArray, List.set_cons_zero, List.set_cons_succ])
                      refine rg_in 43 rfl (by kernel_rfl) (by kernel_rfl) (by kernel_rfl) (by rfl) (v := ?_) (fun _ _ _ h => h) hHeld (fun w hSw => ?_) ?_
                      rotate_left
                      · (try dsimp only at hSw); go_simp <;> (with_reducible rfl)
                      (try simp only [Act.put, List.setIfInBounds_toArray, List.set_cons_zero, List.set_cons_succ])
                      refine rg_in 44 rfl (by kernel_rfl) (by kernel_rfl) (by kernel_rfl) (by rfl) (v := ?_) (fun _ _ _ h => h) hHeld (fun w hSw => ?_) ?_
                      rotate_left
                      · (try dsimp only at hSw); go_simp <;> (with_reducible rfl)
                      (try simp only [Act.put, List.setIfInBounds_toArray, List.set_cons_zero, List.set_cons_succ])
                      refine wpAnyH_done (by kernel_rfl) ?_ _
                      clear hHeld k1 k2 rm2 rn2 rx0 rx1 rx2 rx3 rx4 rx5 rx6 rx7 ry0 ry1 ry2 ry3 ry4 ry5 ry6 ry7
                      go_wp2_with fail
                      go_roundw
                      case rel => first | exact ⟨i + 1, by omega, by go_num, HNX, hbx.drew⟩ | exact ⟨_, ⟨i + 1, by omega, by go_num, HNX, hbx.drew⟩, rfl⟩
                      case measure => simp [intOf]; omega
                    · have HNO : Hid (¬ X.s = Y.s) := Lib.hid (hmn (by intro h; injection h with h1 h2 h3; exact hrr h3))
                      subst haa
                      have hrn := red_ne hrr
                      clear hmx hmn hkk hsb hrr
                      obtain ⟨c1, i1, v1, l1, m1'⟩ := r
                      obtain ⟨c2, i2, v2, l2, m2'⟩ := q
                      simp only at x2 x3 x4 x5 x6 x7 y2 y3 y4 y5 y6 y7 hrn
                      generalize hiI v1 = h1 at *
                      generalize loI v1 = o1 at *
                      generalize hiI v2 = h2 at *
                      generalize loI v2 = o2 at *
                      go_upto_region 11 with fail
                      have rm2 := fun W (h : Below wx.heap.size wx W) => mkept_later h m2
                      have rn2 := fun W (h : Below wx.heap.size wx W) => mkept_later h n2
                      have rx0 := fun W (h : Below wx.heap.size wx W) => mkept_later h x0
                      have rx1 := fun W (h : Below wx.heap.size wx W) => mkept_later h x1
                      have rx2 := fun W (h : Below wx.heap.size wx W) => mkept_later h x2
                      have rx3 := fun W (h : Below wx.heap.size wx W) => mkept_later h x3
                      have rx4 := fun W (h : Below wx.heap.size wx W) => mkept_later h x4
                      have rx5 := fun W (h : Below wx.heap.size wx W) => mkept_later h x5
                      have rx6 := fun W (h : Below wx.heap.size wx W) => mkept_later h x6
                      have rx7 := fun W (h : Below wx.heap.size wx W) => mkept_later h x7
                      have ry0 := fun W (h : Below wx.heap.size wx W) => mkept_later h y0
                      have ry1 := fun W (h : Below wx.heap.size wx W) => mkept_later h y1
                      have ry2 := fun W (h : Below wx.heap.size wx W) => mkept_later h y2
                      have ry3 := fun W (h : Below wx.heap.size wx W) => mkept_later h y3
                      have ry4 := fun W (h : Below wx.heap.size wx W) => mkept_later h y4
                      have ry5 := fun W (h : Below wx.heap.size wx W) => mkept_later h y5
                      have ry6 := fun W (h : Below wx.heap.size wx W) => mkept_later h y6
                      have ry7 := fun W (h : Below wx.heap.size wx W) => mkept_later h y7
                      clear m2 n2 x0 x1 x2 x3 x4 x5 x6 x7 y0 y1 y2 y3 y4 y5 y6 y7 m0 m1 n0 n1
                      refine wp_region_held_drew (S := fun W => Below wx.heap.size wx W) (by kernel_rfl) (below_drewN (Below.refl _ _) 1) (fun hHeld => ?_)
                      refine rg_in 0 rfl (by kernel_rfl) (by kernel_rfl) (by kernel_rfl) (by rfl) (v := ?_) (fun _ _ _ h => h) hHeld (fun w hSw => ?_) ?_
                      rotate_left
                      · (try dsimp only at hSw); go_simp <;> (with_reducible rfl)
                      (try simp only [Act.put, List.setIfInBounds_toArray, List.set_cons_zero, List.set_cons_succ])
                      refine rg_in 1 rfl (by kernel_rfl) (by kernel_rfl) (by kernel_rfl) (by rfl) (v := ?_) (fun _ _ _ h => h) hHeld (fun w hSw => ?_) ?_
                      rotate_left
                      · (try dsimp only at hSw); go_simp <;> (with_reducible rfl)
                      (try simp only [Act.put, List.setIfInBounds_toArray, List.set_cons_zero, List.set_cons_succ])
                      refine rg_in 2 rfl (by kernel_rfl) (by kernel_rfl) (by kernel_rfl) (by rfl) (v := ?_) (fun _ _ _ h => h) hHeld (fun w hSw => ?_) ?_
                      rotate_left
                      · (try dsimp only at hSw); go_simp <;> (with_reducible rfl)
                      (try simp only [Act.put, List.setIfInBounds_toArray, List.set_cons_zero, List.set_cons_succ])
                      refine rg_in 3 rfl (by kernel_rfl) (by kernel_rfl) (by kernel_rfl) (by rfl) (v := ?_) (fun _ _ _ h => h) hHeld (fun w hSw => ?_) ?_
                      rotate_left
                      · (try dsimp only at hSw); go_simp <;> (with_reducible rfl)
                      (try simp only [Act.put, List.setIfInBounds_toArray, List.set_cons_zero, List.set_cons_succ])
                      refine rg_in 4 rfl (by kernel_rfl) (by kernel_rfl) (by kernel_rfl) (by rfl) (v := ?_) (fun _ _ _ h => h) hHeld (fun w hSw => ?_) ?_
                      rotate_left
                      · (try dsimp only at hSw); go_simp <;> (with_reducible rfl)
                      (try simp only [Act.put, List.setIfInBounds_toArray, List.set_cons_zero, List.set_cons_succ])
                      refine rg_in 5 rfl (by kernel_rfl) (by kernel_rfl) (by kernel_rfl) (by rfl) (v := ?_) (fun _ _ _ h => h) hHeld (fun w hSw => ?_) ?_
                      rotate_left
                      · (try dsimp only at hSw); go_simp <;> (with_reducible rfl)
                      (try simp only [Act.put, List.setIfInBounds_toArray, List.set_cons_zero, List.set_cons_succ])
                      refine rg_in 6 rfl (by kernel_rfl) (by kernel_rfl) (by kernel_rfl) (by rfl) (v := ?_) (fun _ _ _ h => h) hHeld (fun w hSw => ?_) ?_
                      rotate_left
                      · (try dsimp only at hSw); go_simp <;> (with_reducible rfl)
                      (try simp only [Act.put, List.setIfInBounds_toArray, List.set_cons_zero, List.set_cons_succ])
                      refine rg_in 7 rfl (by kernel_rfl) (by kernel_rfl) (by kernel_rfl) (by rfl) (v := ?_) (fun _ _ _ h => h) hHeld (fun w hSw => ?_) ?_
                      rotate_left
                      · (try dsimp only at hSw); go_simp <;> (with_reducible rfl)
                      (try simp only [Act.put, List.setIfInBounds_toArray, List.set_cons_zero, List.set_cons_succ])
                      refine rg_in 8 rfl (by kernel_rfl) (by kernel_rfl) (by kernel_rfl) (by rfl) (v := ?_) (fun _ _ _ h => h) hHeld (fun w hSw => ?_) ?_
                      rotate_left
                      · (try dsimp only at hSw); go_simp <;> (with_reducible rfl)
                      (try simp only [Act.put, List.setIfInBounds_toArray, List.set_cons_zero, List.set_cons_succ])
                      refine rg_in 9 rfl (by kernel_rfl) (by kernel_rfl) (by kernel_rfl) (by rfl) (v := ?_) (fun _ _ _ h => h) hHeld (fun w hSw => ?_) ?_
                      rotate_left
                      · (try dsimp only at hSw); go_simp <;> (with_reducible rfl)
                      (try simp only [Act.put, List.setIfInBounds_toArray, List.set_cons_zero, List.set_cons_succ])
                      refine rg_in 10 rfl (by kernel_rfl) (by kernel_rfl) (by kernel_rfl) (by rfl) (v := ?_) (fun _ _ _ h => h) hHeld (fun w hSw => ?_) ?_
                      rotate_left
                      · (try dsimp only at hSw); go_simp <;> (with_reducible rfl)
                      (try simp only [Act.put, List.setIfInBounds_toArray, List.set_cons_zero, List.set_cons_succ])
                      refine rg_in 11 rfl (by kernel_rfl) (by kernel_rfl) (by kernel_rfl) (by rfl) (v := ?_) (fun _ _ _ h => h) hHeld (fun w hSw => ?_) ?_
                      rotate_left
                      · (try dsimp only at hSw); go_simp <;> (with_reducible rfl)
                      (try simp only [Act.put, List.setIfInBounds_toArray, List.set_cons_zero, List.set_cons_succ])
                      refine rg_in 12 rfl (by kernel_rfl) (by kernel_rfl) (by kernel_rfl) (by rfl) (v := ?_) (fun _ _ _ h => h) hHeld (fun w hSw => ?_) ?_
                      rotate_left
                      · (try dsimp only at hSw); go_simp <;> (with_reducible rfl)
                      (try simp only [Act.put, List.setIfInBounds_toArray, List.set_cons_zero, List.set_cons_succ])
                      refine rg_in 13 rfl (by kernel_rfl) (by kernel_rfl) (by kernel_rfl) (by rfl) (v := ?_) (fun _ _ _ h => h) hHeld (fun w hSw => ?_) ?_
                      rotate_left
                      · (try dsimp only at hSw); go_simp <;> (with_reducible rfl)
                      (try simp only [Act.put, List.setIfInBounds_toArray, List.set_cons_zero, List.set_cons_succ])
                      refine rg_in 14 rfl (by kernel_rfl) (by kernel_rfl) (by kernel_rfl) (by rfl) (v := ?_) (fun _ _ _ h => h) hHeld (fun w hSw => ?_) ?_
                      rotate_left
                      · (try dsimp only at hSw); go_simp <;> (with_reducible rfl)
                      (try simp only [Act.put, List.setIfInBounds_toArray, List.set_cons_zero, List.set_cons_succ])
                      refine rg_in 15 rfl (by kernel_rfl) (by kernel_rfl) (by kernel_rfl) (by rfl) (v := ?_) (fun _ _ _ h => h) hHeld (fun w hSw => ?_) ?_
                      rotate_left
                      · (try dsimp only at hSw); go_simp <;> (with_reducible rfl)
                      (try simp only [Act.put, List.setIfInBounds_toArray, List.set_cons_zero, List.set_cons_succ])
                      refine rg_in 16 rfl (by kernel_rfl) (by kernel_rfl) (by kernel_rfl) (by rfl) (v := ?_) (fun _ _ _ h => h) hHeld (fun w hSw => ?_) ?_
                      rotate_left
                      · (try dsimp only at hSw); go_simp <;> (with_reducible rfl)
                      (try simp only [Act.put, List.setIfInBounds_toArray, List.set_cons_zero, List.set_cons_succ])
                      refine rg_in 17 rfl (by kernel_rfl) (by kernel_rfl) (by kernel_rfl) (by rfl) (v := ?_) (fun _ _ _ h => h) hHeld (fun w hSw => ?_) ?_
                      rotate_left
                      · (try dsimp only at hSw); go_simp <;> (with_reducible rfl)
                      (try simp only [Act.put, List.setIfInBounds_toArray, List.set_cons_zero, List.set_cons_succ])
                      refine rg_in 18 rfl (by kernel_rfl) (by kernel_rfl) (by kernel_rfl) (by rfl) (v := ?_) (fun _ _ _ h => h) hHeld (fun w hSw => ?_) ?_
                      rotate_left
                      · (try dsimp only at hSw); go_simp <;> (with_reducible rfl)
                      (try simp only [Act.put, List.setIfInBounds_toArray, List.set_cons_zero, List.set_cons_succ])
                      refine rg_in 19 rfl (by kernel_rfl) (by kernel_rfl) (by kernel_rfl) (by rfl) (v := ?_) (fun _ _ _ h => h) hHeld (fun w hSw => ?_) ?_
                      rotate_left
                      · (try dsimp only at hSw); go_simp <;> (with_reducible rfl)
                      (try simp only [Act.put, List.setIfInBounds_toArray, List.set_cons_zero, List.set_cons_succ])
                      refine rg_in 20 rfl (by kernel_rfl) (by kernel_rfl) (by kernel_rfl) (by rfl) (v := ?_) (fun _ _ _ h => h) hHeld (fun w hSw => ?_) ?_
                      rotate_left
                      · (try dsimp only at hSw); go_simp <;> (with_reducible rfl)
                      (try simp only [Act.put, List.setIfInBounds_toArray, List.set_cons_zero, List.set_cons_succ])
                      refine rg_in 21 rfl (by kernel_rfl) (by kernel_rfl) (by kernel_rfl) (by rfl) (v := ?_) (fun _ _ _ h => h) hHeld (fun w hSw => ?_) ?_
                      rotate_left
                      · (try dsimp only at hSw); go_simp <;> (with_reducible rfl)
                      (try simp only [Act.put, List.setIfInBounds_toArray, List.set_cons_zero, List.set_cons_succ])
                      refine rg_in 22 rfl (by kernel_rfl) (by kernel_rfl) (by kernel_rfl) (by rfl) (v := ?_) (fun _ _ _ h => h) hHeld (fun w hSw => ?_) ?_
                      rotate_left
                      · (try dsimp only at hSw); go_simp <;> (with_reducible rfl)
                      (try simp only [Act.put, List.setIfInBounds_toArray, List.set_cons_zero, List.set_cons_succ])
                      refine rg_in 23 rfl (by kernel_rfl) (by kernel_rfl) (by kernel_rfl) (by rfl) (v := ?_) (fun _ _ _ h => h) hHeld (fun w hSw => ?_) ?_
                      rotate_left
                      · (try dsimp only at hSw); go_simp <;> (with_reducible rfl)
                      (try simp only [Act.put, List.setIfInBounds_toArray, List.set_cons_zero, List.set_cons_succ])
                      refine rg_in 24 rfl (by kernel_rfl) (by kernel_rfl) (by kernel_rfl) (by rfl) (v := ?_) (fun _ _ _ h => h) hHeld (fun w hSw => ?_) ?_
                      rotate_left
                      · (try dsimp only at hSw); go_simp <;> (with_reducible rfl)
                      (try simp only [Act.put, List.setIfInBounds_toArray, List.set_cons_zero, List.set_cons_succ])
                      refine rg_in 25 rfl (by kernel_rfl) (by kernel_rfl) (by kernel_rfl) (by rfl) (v := ?_) (fun _ _ _ h => h) hHeld (fun w hSw => ?_) ?_
                      rotate_left
                      · (try dsimp only at hSw); go_simp <;> (with_reducible rfl)
                      (try simp only [Act.put, List.setIfInBounds_toArray, List.set_cons_zero, List.set_cons_succ])
                      refine rg_in 26 rfl (by kernel_rfl) (by kernel_rfl) (by kernel_rfl) (by rfl) (v := ?_) (fun _ _ _ h => h) hHeld (fun w hSw => ?_) ?_
                      rotate_left
                      · (try dsimp only at hSw); go_simp <;> (with_reducible rfl)
                      (try simp only [Act.put, List.setIfInBounds_toArray, List.set_cons_zero, List.set_cons_succ])
                      refine rg_in 27 rfl (by kernel_rfl) (by kernel_rfl) (by kernel_rfl) (by rfl) (v := ?_) (fun _ _ _ h => h) hHeld (fun w hSw => ?_) ?_
                      rotate_left
                      · (try dsimp only at hSw); go_simp <;> (with_reducible rfl)
                      (try simp only [Act.put, List.setIfInBounds_toArray, List.set_cons_zero, List.set_cons_succ])
                      refine rg_in 28 rfl (by kernel_rfl) (by kernel_rfl) (by kernel_rfl) (by rfl) (v := ?_) (fun _ _ _ h => h) hHeld (fun w hSw => ?_) ?_
                      rotate_left
                      · (try dsimp only at hSw); go_simp <;> (with_reducible rfl)
                      (try simp only [Act.put, List.setIfInBounds_toArray, List.set_cons_zero, List.set_cons_succ])
                      refine rg_in 29 rfl (by kernel_rfl) (by kernel_rfl) (by kernel_rfl) (by rfl) (v := ?_) (fun _ _ _ h => h) hHeld (fun w hSw => ?_) ?_
                      rotate_left
                      · (try dsimp only at hSw); go_simp <;> (with_reducible rfl)
                      (try simp only [Act.put, List.setIfInBounds_toArray, List.set_cons_zero, List.set_cons_succ])
                      refine rg_in 30 rfl (by kernel_rfl) (by kernel_rfl) (by kernel_rfl) (by rfl) (v := ?_) (fun _ _ _ h => h) hHeld (fun w hSw => ?_) ?_
                      rotate_left
                      · (try dsimp only at hSw); go_simp <;> (with_reducible rfl)
                      (try simp only [Act.put, List.setIfInBounds_toArray, List.set_cons_zero, List.set_cons_succ])
                      refine rg_in 31 rfl (by kernel_rfl) (by kernel_rfl) (by kernel_rfl) (by rfl) (v := ?_) (fun _ _ _ h => h) hHeld (fun w hSw => ?_) ?_
                      rotate_left
                      · (try dsimp only at hSw); go_simp <;> (with_reducible rfl)
                      (try simp only [Act.put, List.setIfInBounds_toArray, List.set_cons_zero, List.set_cons_succ])
                      refine rg_in 32 rfl (by kernel_rfl) (by kernel_rfl) (by kernel_rfl) (by rfl) (v := ?_) (fun _ _ _ h => h) hHeld (fun w hSw => ?_) ?_
                      rotate_left
                      · (try dsimp only at hSw); go_simp <;> (with_reducible rfl)
                      (try simp only [Act.put, List.setIfInBounds_toArray, List.set_cons_zero, List.set_cons_succ])
                      refine rg_in 33 rfl (by kernel_rfl) (by kernel_rfl) (by kernel_rfl) (by rfl) (v := ?_) (fun _ _ _ h => h) hHeld (fun w hSw => ?_) ?_
                      rotate_left
                      · (try dsimp only at hSw); go_simp <;> (with_reducible rfl)
                      (try simp only [Act.put, List.setIfInBounds_toArray, List.set_cons_zero, List.set_cons_succ])
                      refine rg_in 34 rfl (by kernel_rfl) (by kernel_rfl) (by kernel_rfl) (by rfl) (v := ?_) (fun _ _ _ h => h) hHeld (fun w hSw => ?_) ?_
                      rotate_left
                      · (try dsimp only at hSw); go_simp <;> (with_reducible rfl)
                      (try simp only [Act.put, List.setIfInBounds_toArray, List.set_cons_zero, List.set_cons_succ])
                      refine rg_in 35 rfl (by kernel_rfl) (by kernel_rfl) (by kernel_rfl) (by rfl) (v := ?_) (fun _ _ _ h => h) hHeld (fun w hSw => ?_) ?_
                      rotate_left
                      · (try dsimp only at hSw); go_simp <;> (with_reducible rfl)
                      (try simp only [Act.put, List.setIfInBounds_toArray, List.set_cons_zero, List.set_cons_succ])
                      refine rg_in 36 rfl (by kernel_rfl) (by kernel_rfl) (by kernel_rfl) (by rfl) (v := ?_) (fun _ _ _ h => h) hHeld (fun w hSw => ?_) ?_
                      rotate_left
                      · (try dsimp only at hSw); go_simp <;> (with_reducible rfl)
                      (try simp only [Act.put, List.setIfInBounds_toArray, List.set_cons_zero, List.set_cons_succ])
                      refine rg_in 37 rfl (by kernel_rfl) (by kernel_rfl) (by kernel_rfl) (by rfl) (v := ?_) (fun _ _ _ h => h) hHeld (fun w hSw => ?_) ?_
                      rotate_left
                      · (try dsimp only at hSw); go_simp <;> (with_reducible rfl)
                      (try simp only [Act.put, List.setIfInBounds_toArray, List.set_cons_zero, List.set_cons_succ])
                      refine rg_in 38 rfl (by kernel_rfl) (by kernel_rfl) (by kernel_rfl) (by rfl) (v := ?_) (fun _ _ _ h => h) hHeld (fun w hSw => ?_) ?_
                      rotate_left
                      · (try dsimp only at hSw); go_simp <;> (with_reducible rfl)
                      (try simp only [Act.put, List.setIfInBounds_toArray, List.set_cons_zero, List.set_cons_succ])
                      refine rg_in 39 rfl (by kernel_rfl) (by kernel_rfl) (by kernel_rfl) (by rfl) (v := ?_) (fun _ _ _ h => h) hHeld (fun w hSw => ?_) ?_
                      rotate_left
                      · (try dsimp only at hSw); go_simp <;> (with_reducible rfl)
                      (try simp only [Act.put, List.setIfInBounds_toArray, List.set_cons_zero, List.set_cons_succ])
                      refine rg_in 40 rfl (by kernel_rfl) (by kernel_rfl) (by kernel_rfl) (by rfl) (v := ?_) (fun _ _ _ h => h) hHeld (fun w hSw => ?_) ?_
                      rotate_left
                      · (try dsimp only at hSw); go_simp <;> (with_reducible rfl)
                      (try simp only [Act.put, List.setIfInBounds_toArray, List.set_cons_zero, List.set_cons_succ])
                      refine rg_in 41 rfl (by kernel_rfl) (by kernel_rfl) (by kernel_rfl) (by rfl) (v := ?_) (fun _ _ _ h => h) hHeld (fun w hSw => ?_) ?_
                      rotate_left
                      · (try dsimp only at hSw); go_simp <;> (with_reducible rfl)
                      (try simp only [Act.put, List.setIfInBounds_toArray, List.set_cons_zero, List.set_cons_succ])
                      refine rg_in 42 rfl (by kernel_rfl) (by kernel_rfl) (by kernel_rfl) (by rfl) (v := ?_) (fun _ _ _ h => h) hHeld (fun w hSw => ?_) ?_
                      rotate_left
                      · (try dsimp only at hSw); go_simp <;> (with_reducible rfl)
                      (try simp only [Act.put, List.setIfInBounds_toArray, List.set_cons_zero, List.set_cons_succ])
                      refine rg_in 43 rfl (by kernel_rfl) (by kernel_rfl) (by kernel_rfl) (by rfl) (v := .bool true) (fun _ _ _ h => h) hHeld (fun w hSw => ?_) ?_
                      · (try dsimp only at hSw); go_simp
                        rcases hrn with hh | hh | hh | hh | hh | hh | hh
                        rotate_right
                        · exact absurd hokr hh
                        all_goals
                          (intro a1 a2 a3 a4 a5 a6
                           first | exact hh a1 | exact hh a2 | exact hh a3 | exact hh a4 | exact hh a5 | exact hh a6)
                      (try simp only [Act.put, List.setIfInBounds_toArray, List.set_cons_zero, List.set_cons_succ])
                      refine rg_in 44 rfl (by kernel_rfl) (by kernel_rfl) (by kernel_rfl) (by rfl) (v := ?_) (fun _ _ _ h => h) hHeld (fun w hSw => ?_) ?_
                      rotate_left
                      · (try dsimp only at hSw); go_simp <;> (with_reducible rfl)
                      (try simp only [Act.put, List.setIfInBounds_toArray, List.set_cons_zero, List.set_cons_succ])
                      refine wpAnyH_done (by kernel_rfl) ?_ _
                      clear hHeld k1 k2 hrn hokr rm2 rn2 rx0 rx1 rx2 rx3 rx4 rx5 rx6 rx7 ry0 ry1 ry2 ry3 ry4 ry5 ry6 ry7
                      go_wp2
                      go_ret
                      exact ⟨_, rfl, no_iff HNO.out, hbzx.drew⟩
                  · have HNO : Hid (¬ X.s = Y.s) := Lib.hid (hmn (by intro h; injection h with h1 h2 h3; exact haa h2))
                    have e1 : (xa == ya) = false := by simpa using haa
                    have e2 : (xa != ya) = true := by simpa using haa
                    clear hmx hmn hokr hkk hsb
                    go_upto_region 11 with fail
                    have rm2 := fun W (h : Below wx.heap.size wx W) => mkept_later h m2
                    have rn2 := fun W (h : Below wx.heap.size wx W) => mkept_later h n2
                    have rx0 := fun W (h : Below wx.heap.size wx W) => mkept_later h x0
                    have rx1 := fun W (h : Below wx.heap.size wx W) => mkept_later h x1
                    have rx2 := fun W (h : Below wx.heap.size wx W) => mkept_later h x2
                    have rx3 := fun W (h : Below wx.heap.size wx W) => mkept_later h x3
                    have rx4 := fun W (h : Below wx.heap.size wx W) => mkept_later h x4
                    have rx5 := fun W (h : Below wx.heap.size wx W) => mkept_later h x5
                    have rx6 := fun W (h : Below wx.heap.size wx W) => mkept_later h x6
                    have rx7 := fun W (h : Below wx.heap.size wx W) => mkept_later h x7
                    have ry0 := fun W (h : Below wx.heap.size wx W) => mkept_later h y0
                    have ry1 := fun W (h : Below wx.heap.size wx W) => mkept_later h y1
                    have ry2 := fun W (h : Below wx.heap.size wx W) => mkept_later h y2
                    have ry3 := fun W (h : Below wx.heap.size wx W) => mkept_later h y3
                    have ry4 := fun W (h : Below wx.heap.size wx W) => mkept_later h y4
                    have ry5 := fun W (h : Below wx.heap.size wx W) => mkept_later h y5
                    have ry6 := fun W (h : Below wx.heap.size wx W) => mkept_later h y6
                    have ry7 := fun W (h : Below wx.heap.size wx W) => mkept_later h y7
                    clear m2 n2 x0 x1 x2 x3 x4 x5 x6 x7 y0 y1 y2 y3 y4 y5 y6 y7 m0 m1 n0 n1
                    refine wp_region_held_drew (S := fun W => Below wx.heap.size wx W) (by kernel_rfl) (below_drewN (Below.refl _ _) 1) (fun hHeld => ?_)
                    refine rg_in 0 rfl (by kernel_rfl) (by kernel_rfl) (by kernel_rfl) (by rfl) (v := ?_) (fun _ _ _ h => h) hHeld (fun w hSw => ?_) ?_
                    rotate_left
                    · (try dsimp only at hSw); go_simp <;> (with_reducible rfl)
                    (try simp only [Act.put, List.setIfInBounds_toArray, List.set_cons_zero, List.set_cons_succ])
                    refine rg_in 1 rfl (by kernel_rfl) (by kernel_rfl) (by kernel_rfl) (by rfl) (v := ?_) (fun _ _ _ h => h) hHeld (fun w hSw => ?_) ?_
                    rotate_left
                    · (try dsimp only at hSw); go_simp <;> (with_reducible rfl)
                    (try simp only [Act.put, List.setIfInBounds_toArray, List.set_cons_zero, List.set_cons_succ])
                    refine rg_in 2 rfl (by kernel_rfl) (by kernel_rfl) (by kernel_rfl) (by rfl) (v := ?_) (fun _ _ _ h => h) hHeld (fun w hSw => ?_) ?_
                    rotate_left
                    · (try dsimp only at hSw); go_simp <;> (with_reducible rfl)
                    (try simp only [Act.put, List.setIfInBounds_toArray, List.set_cons_zero, List.set_cons_succ])
                    refine rg_in 3 rfl (by kernel_rfl) (by kernel_rfl) (by kernel_rfl) (by rfl) (v := ?_) (fun _ _ _ h => h) hHeld (fun w hSw => ?_) ?_
                    rotate_left
                    · (try dsimp only at hSw); go_simp <;> (with_reducible rfl)
                    (try simp only [Act.put, List.setIfInBounds_toArray, List.set_cons_zero, List.set_cons_succ])
                    refine rg_in 4 rfl (by kernel_rfl) (by kernel_rfl) (by kernel_rfl) (by rfl) (v := ?_) (fun _ _ _ h => h) hHeld (fun w hSw => ?_) ?_
                    rotate_left
                    · (try dsimp only at hSw); go_simp <;> (with_reducible rfl)
                    (try simp only [Act.put, List.setIfInBounds_toArray, List.set_cons_zero, List.set_cons_succ])
                    refine rg_in 5 rfl (by kernel_rfl) (by kernel_rfl) (by kernel_rfl) (by rfl) (v := ?_) (fun _ _ _ h => h) hHeld (fun w hSw => ?_) ?_
                    rotate_left
                    · (try dsimp only at hSw); go_simp <;> (with_reducible rfl)
                    (try simp only [Act.put, List.setIfInBounds_toArray, List.set_cons_zero, List.set_cons_succ])
                    refine rg_in 6 rfl (by kernel_rfl) (by kernel_rfl) (by kernel_rfl) (by rfl) (v := ?_) (fun _ _ _ h => h) hHeld (fun w hSw => ?_) ?_
                    rotate_left
                    · (try dsimp only at hSw); go_simp <;> (with_reducible rfl)
                    (try simp only [Act.put, List.setIfInBounds_toArray, List.set_cons_zero, List.set_cons_succ])
                    refine rg_in 7 rfl (by kernel_rfl) (by kernel_rfl) (by kernel_rfl) (by rfl) (v := ?_) (fun _ _ _ h => h) hHeld (fun w hSw => ?_) ?_
                    rotate_left
                    · (try dsimp only at hSw); go_simp <;> (with_reducible rfl)
                    (try simp only [Act.put, List.setIfInBounds_toArray, List.set_cons_zero, List.set_cons_succ])
                    refine rg_in 8 rfl (by kernel_rfl) (by kernel_rfl) (by kernel_rfl) (by rfl) (v := ?_) (fun _ _ _ h => h) hHeld (fun w hSw => ?_) ?_
                    rotate_left
                    · (try dsimp only at hSw); go_simp <;> (with_reducible rfl)
                    (try simp only [Act.put, List.setIfInBounds_toArray, List.set_cons_zero, List.set_cons_succ])
                    refine rg_in 9 rfl (by kernel_rfl) (by kernel_rfl) (by kernel_rfl) (by rfl) (v := ?_) (fun _ _ _ h => h) hHeld (fun w hSw => ?_) ?_
                    rotate_left
                    · (try dsimp only at hSw); go_simp <;> (with_reducible rfl)
                    (try simp only [Act.put, List.setIfInBounds_toArray, List.set_cons_zero, List.set_cons_succ])
                    refine rg_in 10 rfl (by kernel_rfl) (by kernel_rfl) (by kernel_rfl) (by rfl) (v := ?_) (fun _ _ _ h => h) hHeld (fun w hSw => ?_) ?_
                    rotate_left
                    · (try dsimp only at hSw); go_simp <;> (with_reducible rfl)
                    (try simp only [Act.put, List.setIfInBounds_toArray, List.set_cons_zero, List.set_cons_succ])
                    refine rg_in 11 rfl (by kernel_rfl) (by kernel_rfl) (by kernel_rfl) (by rfl) (v := ?_) (fun _ _ _ h => h) hHeld (fun w hSw => ?_) ?_
                    rotate_left
                    · (try dsimp only at hSw); go_simp <;> (with_reducible rfl)
                    (try simp only [Act.put, List.setIfInBounds_toArray, List.set_cons_zero, List.set_cons_succ])
                    refine rg_in 12 rfl (by kernel_rfl) (by kernel_rfl) (by kernel_rfl) (by rfl) (v := ?_) (fun _ _ _ h => h) hHeld (fun w hSw => ?_) ?_
                    rotate_left
                    · (try dsimp only at hSw); go_simp <;> (with_reducible rfl)
                    (try simp only [Act.put, List.setIfInBounds_toArray, List.set_cons_zero, List.set_cons_succ])
                    refine rg_in 13 rfl (by kernel_rfl) (by kernel_rfl) (by kernel_rfl) (by rfl) (v := ?_) (fun _ _ _ h => h) hHeld (fun w hSw => ?_) ?_
                    rotate_left
                    · (try dsimp only at hSw); go_simp <;> (with_reducible rfl)
                    (try simp only [Act.put, List.setIfInBounds_toArray, List.set_cons_zero, List.set_cons_succ])
                    refine rg_in 14 rfl (by kernel_rfl) (by kernel_rfl) (by kernel_rfl) (by rfl) (v := ?_) (fun _ _ _ h => h) hHeld (fun w hSw => ?_) ?_
                    rotate_left
                    · (try dsimp only at hSw); go_simp <;> (with_reducible rfl)
                    (try simp only [Act.put, List.setIfInBounds_toArray, List.set_cons_zero, List.set_cons_succ])
                    refine rg_in 15 rfl (by kernel_rfl) (by kernel_rfl) (by kernel_rfl) (by rfl) (v := ?_) (fun _ _ _ h => h) hHeld (fun w hSw => ?_) ?_
                    rotate_left
                    · (try dsimp only at hSw); go_simp <;> (with_reducible rfl)
                    (try simp only [Act.put, List.setIfInBounds_toArray, List.set_cons_zero, List.set_cons_succ])
                    refine rg_in 16 rfl (by kernel_rfl) (by kernel_rfl) (by kernel_rfl) (by rfl) (v := ?_) (fun _ _ _ h => h) hHeld (fun w hSw => ?_) ?_
                    rotate_left
                    · (try dsimp only at hSw); go_simp <;> (with_reducible rfl)
                    (try simp only [Act.put, List.setIfInBounds_toArray, List.set_cons_zero, List.set_cons_succ])
                    refine rg_in 17 rfl (by kernel_rfl) (by kernel_rfl) (by kernel_rfl) (by rfl) (v := ?_) (fun _ _ _ h => h) hHeld (fun w hSw => ?_) ?_
                    rotate_left
                    · (try dsimp only at hSw); go_simp <;> (with_reducible rfl)
                    (try simp only [Act.put, List.setIfInBounds_toArray, List.set_cons_zero, List.set_cons_succ])
                    refine rg_in 18 rfl (by kernel_rfl) (by kernel_rfl) (by kernel_rfl) (by rfl) (v := ?_) (fun _ _ _ h => h) hHeld (fun w hSw => ?_) ?_
                    rotate_left
                    · (try dsimp only at hSw); go_simp <;> (with_reducible rfl)
                    (try simp only [Act.put, List.setIfInBounds_toArray, List.set_cons_zero, List.set_cons_succ])
                    refine rg_in 19 rfl (by kernel_rfl) (by kernel_rfl) (by kernel_rfl) (by rfl) (v := ?_) (fun _ _ _ h => h) hHeld (fun w hSw => ?_) ?_
                    rotate_left
                    · (try dsimp only at hSw); go_simp <;> (with_reducible rfl)
                    (try simp only [Act.put, List.setIfInBounds_toArray, List.set_cons_zero, List.set_cons_succ])
                    refine rg_in 20 rfl (by kernel_rfl) (by kernel_rfl) (by kernel_rfl) (by rfl) (v := ?_) (fun _ _ _ h => h) hHeld (fun w hSw => ?_) ?_
                    rotate_left
                    · (try dsimp only at hSw); go_simp <;> (with_reducible rfl)
                    (try simp only [Act.put, List.setIfInBounds_toArray, List.set_cons_zero, List.set_cons_succ])
                    refine rg_in 21 rfl (by kernel_rfl) (by kernel_rfl) (by kernel_rfl) (by rfl) (v := ?_) (fun _ _ _ h => h) hHeld (fun w hSw => ?_) ?_
                    rotate_left
                    · (try dsimp only at hSw); go_simp <;> (with_reducible rfl)
                    (try simp only [Act.put, List.setIfInBounds_toArray, List.set_cons_zero, List.set_cons_succ])
                    refine rg_in 22 rfl (by kernel_rfl) (by kernel_rfl) (by kernel_rfl) (by rfl) (v := ?_) (fun _ _ _ h => h) hHeld (fun w hSw => ?_) ?_
                    rotate_left
                    · (try dsimp only at hSw); go_simp <;> (with_reducible rfl)
                    (try simp only [Act.put, List.setIfInBounds_toArray, List.set_cons_zero, List.set_cons_succ])
                    refine rg_in 23 rfl (by kernel_rfl) (by kernel_rfl) (by kernel_rfl) (by rfl) (v := ?_) (fun _ _ _ h => h) hHeld (fun w hSw => ?_) ?_
                    rotate_left
                    · (try dsimp only at hSw); go_simp <;> (with_reducible rfl)
                    (try simp only [Act.put, List.setIfInBounds_toArray, List.set_cons_zero, List.set_cons_succ])
                    refine rg_in 24 rfl (by kernel_rfl) (by kernel_rfl) (by kernel_rfl) (by rfl) (v := ?_) (fun _ _ _ h => h) hHeld (fun w hSw => ?_) ?_
                    rotate_left
                    · (try dsimp only at hSw); go_simp <;> (with_reducible rfl)
                    (try simp only [Act.put, List.setIfInBounds_toArray, List.set_cons_zero, List.set_cons_succ])
                    refine rg_in 25 rfl (by kernel_rfl) (by kernel_rfl) (by kernel_rfl) (by rfl) (v := ?_) (fun _ _ _ h => h) hHeld (fun w hSw => ?_) ?_
                    rotate_left
                    · (try dsimp only at hSw); go_simp <;> (with_reducible rfl)
                    (try simp only [Act.put, List.setIfInBounds_toArray, List.set_cons_zero, List.set_cons_succ])
                    refine rg_in 26 rfl (by kernel_rfl) (by kernel_rfl) (by kernel_rfl) (by rfl) (v := ?_) (fun _ _ _ h => h) hHeld (fun w hSw => ?_) ?_
                    rotate_left
                    · (try dsimp only at hSw); go_simp <;> (with_reducible rfl)
                    (try simp only [Act.put, List.setIfInBounds_toArray, List.set_cons_zero, List.set_cons_succ])
                    refine rg_in 27 rfl (by kernel_rfl) (by kernel_rfl) (by kernel_rfl) (by rfl) (v := ?_) (fun _ _ _ h => h) hHeld (fun w hSw => ?_) ?_
                    rotate_left
                    · (try dsimp only at hSw); go_simp <;> (with_reducible rfl)
                    (try simp only [Act.put, List.setIfInBounds_toArray, List.set_cons_zero, List.set_cons_succ])
                    refine rg_in 28 rfl (by kernel_rfl) (by kernel_rfl) (by kernel_rfl) (by rfl) (v := ?_) (fun _ _ _ h => h) hHeld (fun w hSw => ?_) ?_
                    rotate_left
                    · (try dsimp only at hSw); go_simp <;> (with_reducible rfl)
                    (try simp only [Act.put, List.setIfInBounds_toArray, List.set_cons_zero, List.set_cons_succ])
                    refine rg_in 29 rfl (by kernel_rfl) (by kernel_rfl) (by kernel_rfl) (by rfl) (v := ?_) (fun _ _ _ h => h) hHeld (fun w hSw => ?_) ?_
                    rotate_left
                    · (try dsimp only at hSw); go_simp <;> (with_reducible rfl)
                    (try simp only [Act.put, List.setIfInBounds_toArray, List.set_cons_zero, List.set_cons_succ])
                    refine rg_in 30 rfl (by kernel_rfl) (by kernel_rfl) (by kernel_rfl) (by rfl) (v := ?_) (fun _ _ _ h => h) hHeld (fun w hSw => ?_) ?_
                    rotate_left
                    · (try dsimp only at hSw); go_simp <;> (with_reducible rfl)
                    (try simp only [Act.put, List.setIfInBounds_toArray, List.set_cons_zero, List.set_cons_succ])
                    refine rg_off 31 rfl (by kernel_rfl) (by kernel_rfl) (by kernel_rfl) (by rfl) (fun _ _ _ h => h) hHeld ?_
                    (try simp only [Act.put, List.setIfInBounds_toArray, List.set_cons_zero, List.set_cons_succ])
                    refine rg_off 32 rfl (by kernel_rfl) (by kernel_rfl) (by kernel_rfl) (by rfl) (fun _ _ _ h => h) hHeld ?_
                    (try simp only [Act.put, List.setIfInBounds_toArray, List.set_cons_zero, List.set_cons_succ])
                    refine rg_off 33 rfl (by kernel_rfl) (by kernel_rfl) (by kernel_rfl) (by rfl) (fun _ _ _ h => h) hHeld ?_
                    (try simp only [Act.put, List.setIfInBounds_toArray, List.set_cons_zero, List.set_cons_succ])
                    refine rg_off 34 rfl (by kernel_rfl) (by kernel_rfl) (by kernel_rfl) (by rfl) (fun _ _ _ h => h) hHeld ?_
                    (try simp only [Act.put, List.setIfInBounds_toArray, List.set_cons_zero, List.set_cons_succ])
                    refine rg_off 35 rfl (by kernel_rfl) (by kernel_rfl) (by kernel_rfl) (by rfl) (fun _ _ _ h => h) hHeld ?_
                    (try simp only [Act.put, List.setIfInBounds_toArray, List.set_cons_zero, List.set_cons_succ])
                    refine rg_off 36 rfl (by kernel_rfl) (by kernel_rfl) (by kernel_rfl) (by rfl) (fun _ _ _ h => h) hHeld ?_
                    (try simp only [Act.put, List.setIfInBounds_toArray, List.set_cons_zero, List.set_cons_succ])
                    refine rg_off 37 rfl (by kernel_rfl) (by kernel_rfl) (by kernel_rfl) (by rfl) (fun _ _ _ h => h) hHeld ?_
                    (try simp only [Act.put, List.setIfInBounds_toArray, List.set_cons_zero, List.set_cons_succ])
                    refine rg_off 38 rfl (by kernel_rfl) (by kernel_rfl) (by kernel_rfl) (by rfl) (fun _ _ _ h => h) hHeld ?_
                    (try simp only [Act.put, List.setIfInBounds_toArray, List.set_cons_zero, List.set_cons_succ])
                    refine rg_off 39 rfl (by kernel_rfl) (by kernel_rfl) (by kernel_rfl) (by rfl) (fun _ _ _ h => h) hHeld ?_
                    (try simp only [Act.put, List.setIfInBounds_toArray, List.set_cons_zero, List.set_cons_succ])
                    refine rg_off 40 rfl (by kernel_rfl) (by kernel_rfl) (by kernel_rfl) (by rfl) (fun _ _ _ h => h) hHeld ?_
                    (try simp only [Act.put, List.setIfInBounds_toArray, List.set_cons_zero, List.set_cons_succ])
                    refine rg_off 41 rfl (by kernel_rfl) (by kernel_rfl) (by kernel_rfl) (by rfl) (fun _ _ _ h => h) hHeld ?_
                    (try simp only [Act.put, List.setIfInBounds_toArray, List.set_cons_zero, List.set_cons_succ])
                    refine rg_off 42 rfl (by kernel_rfl) (by kernel_rfl) (by kernel_rfl) (by rfl) (fun _ _ _ h => h) hHeld ?_
                    (try simp only [Act.put, List.setIfInBounds_toArray, List.set_cons_zero, List.set_cons_succ])
                    refine rg_off 43 rfl (by kernel_rfl) (by kernel_rfl) (by kernel_rfl) (by rfl) (fun _ _ _ h => h) hHeld ?_
                    (try simp only [Act.put, List.setIfInBounds_toArray, List.set_cons_zero, List.set_cons_succ])
                    refine rg_in 44 rfl (by kernel_rfl) (by kernel_rfl) (by kernel_rfl) (by rfl) (v := ?_) (fun _ _ _ h => h) hHeld (fun w hSw => ?_) ?_
                    rotate_left
                    · (try dsimp only at hSw); go_simp <;> (with_reducible rfl)
                    (try simp only [Act.put, List.setIfInBounds_toArray, List.set_cons_zero, List.set_cons_succ])
                    refine wpAnyH_done (by kernel_rfl) ?_ _
                    clear hHeld k1 k2 rm2 rn2 rx0 rx1 rx2 rx3 rx4 rx5 rx6 rx7 ry0 ry1 ry2 ry3 ry4 ry5 ry6 ry7
                    go_wp2
                    go_ret
                    exact ⟨_, rfl, no_iff HNO.out, hbzx.drew⟩
                · have hsb : sameB kl jl = false := by
                    cases hv : sameB kl jl
                    · rfl
                    · exact absurd (sameB_iff2.1 hv) hkk
                  have HNO : Hid (¬ X.s = Y.s) := Lib.hid (hmn (by intro h; injection h with h1 h2 h3; exact hkk h1))
                  rw [hsb] at t1
                  have t2 : ((ofL kl).toList != (ofL jl).toList) = true := by rw [bne, t1]; rfl
                  generalize ofL kl = s1 at *
                  generalize ofL jl = s2 at *
                  clear hmx hmn hokr hkk hsb
                  go_upto_region 11 with fail
                  have rm2 := fun W (h : Below wx.heap.size wx W) => mkept_later h m2
                  have rn2 := fun W (h : Below wx.heap.size wx W) => mkept_later h n2
                  have rx0 := fun W (h : Below wx.heap.size wx W) => mkept_later h x0
                  have rx1 := fun W (h : Below wx.heap.size wx W) => mkept_later h x1
                  have rx2 := fun W (h : Below wx.heap.size wx W) => mkept_later h x2
                  have rx3 := fun W (h : Below wx.heap.size wx W) => mkept_later h x3
                  have rx4 := fun W (h : Below wx.heap.size wx W) => mkept_later h x4
                  have rx5 := fun W (h : Below wx.heap.size wx W) => mkept_later h x5
                  have rx6 := fun W (h : Below wx.heap.size wx W) => mkept_later h x6
                  have rx7 := fun W (h : Below wx.heap.size wx W) => mkept_later h x7
                  have ry0 := fun W (h : Below wx.heap.size wx W) => mkept_later h y0
                  have ry1 := fun W (h : Below wx.heap.size wx W) => mkept_later h y1
                  have ry2 := fun W (h : Below wx.heap.size wx W) => mkept_later h y2
                  have ry3 := fun W (h : Below wx.heap.size wx W) => mkept_later h y3
                  have ry4 := fun W (h : Below wx.heap.size wx W) => mkept_later h y4
                  have ry5 := fun W (h : Below wx.heap.size wx W) => mkept_later h y5
                  have ry6 := fun W (h : Below wx.heap.size wx W) => mkept_later h y6
                  have ry7 := fun W (h : Below wx.heap.size wx W) => mkept_later h y7
                  clear m2 n2 x0 x1 x2 x3 x4 x5 x6 x7 y0 y1 y2 y3 y4 y5 y6 y7 m0 m1 n0 n1
                  refine wp_region_held_drew (S := fun W => Below wx.heap.size wx W) (by kernel_rfl) (below_drewN (Below.refl _ _) 1) (fun hHeld => ?_)
                  refine rg_in 0 rfl (by kernel_rfl) (by kernel_rfl) (by kernel_rfl) (by rfl) (v := ?_) (fun _ _ _ h => h) hHeld (fun w hSw => ?_) ?_
                  rotate_left
                  · (try dsimp only at hSw); go_simp <;> (with_reducible rfl)
                  (try simp only [Act.put, List.setIfInBounds_toArray, List.set_cons_zero, List.set_cons_succ])
                  refine rg_in 1 rfl (by kernel_rfl) (by kernel_rfl) (by kernel_rfl) (by rfl) (v := ?_) (fun _ _ _ h => h) hHeld (fun w hSw => ?_) ?_
                  rotate_left
                  · (try dsimp only at hSw); go_simp <;> (with_reducible rfl)
                  (try simp only [Act.put, List.setIfInBounds_toArray, List.set_cons_zero, List.set_cons_succ])
                  refine rg_in 2 rfl (by kernel_rfl) (by kernel_rfl) (by kernel_rfl) (by rfl) (v := ?_) (fun _ _ _ h => h) hHeld (fun w hSw => ?_) ?_
                  rotate_left
                  · (try dsimp only at hSw); go_simp <;> (with_reducible rfl)
                  (try simp only [Act.put, List.setIfInBounds_toArray, List.set_cons_zero, List.set_cons_succ])
                  refine rg_in 3 rfl (by kernel_rfl) (by kernel_rfl) (by kernel_rfl) (by rfl) (v := ?_) (fun _ _ _ h => h) hHeld (fun w hSw => ?_) ?_
                  rotate_left
                  · (try dsimp only at hSw); go_simp <;> (with_reducible rfl)
                  (try simp only [Act.put, List.setIfInBounds_toArray, List.set_cons_zero, List.set_cons_succ])
                  refine rg_in 4 rfl (by kernel_rfl) (by kernel_rfl) (by kernel_rfl) (by rfl) (v := ?_) (fun _ _ _ h => h) hHeld (fun w hSw => ?_) ?_
                  rotate_left
                  · (try dsimp only at hSw); go_simp <;> (with_reducible rfl)
                  (try simp only [Act.put, List.setIfInBounds_toArray, List.set_cons_zero, List.set_cons_succ])
                  refine rg_in 5 rfl (by kernel_rfl) (by kernel_rfl) (by kernel_rfl) (by rfl) (v := ?_) (fun _ _ _ h => h) hHeld (fun w hSw => ?_) ?_
                  rotate_left
                  · (try dsimp only at hSw); go_simp <;> (with_reducible rfl)
                  (try simp only [Act.put, List.setIfInBounds_toArray, List.set_cons_zero, List.set_cons_succ])
                  refine rg_in 6 rfl (by kernel_rfl) (by kernel_rfl) (by kernel_rfl) (by rfl) (v := ?_) (fun _ _ _ h => h) hHeld (fun w hSw => ?_) ?_
                  rotate_left
                  · (try dsimp only at hSw); go_simp <;> (with_reducible rfl)
                  (try simp only [Act.put, List.setIfInBounds_toArray, List.set_cons_zero, List.set_cons_succ])
                  refine rg_in 7 rfl (by kernel_rfl) (by kernel_rfl) (by kernel_rfl) (by rfl) (v := ?_) (fun _ _ _ h => h) hHeld (fun w hSw => ?_) ?_
                  rotate_left
                  · (try dsimp only at hSw); go_simp <;> (with_reducible rfl)
                  (try simp only [Act.put, List.setIfInBounds_toArray, List.set_cons_zero, List.set_cons_succ])
                  refine rg_in 8 rfl (by kernel_rfl) (by kernel_rfl) (by kernel_rfl) (by rfl) (v := ?_) (fun _ _ _ h => h) hHeld (fun w hSw => ?_) ?_
                  rotate_left
                  · (try dsimp only at hSw); go_simp <;> (with_reducible rfl)
                  (try simp only [Act.put, List.setIfInBounds_toArray, List.set_cons_zero, List.set_cons_succ])
                  refine rg_in 9 rfl (by kernel_rfl) (by kernel_rfl) (by kernel_rfl) (by rfl) (v := ?_) (fun _ _ _ h => h) hHeld (fun w hSw => ?_) ?_
                  rotate_left
                  · (try dsimp only at hSw); go_simp <;> (with_reducible rfl)
                  (try simp only [Act.put, List.setIfInBounds_toArray, List.set_cons_zero, List.set_cons_succ])
                  refine rg_in 10 rfl (by kernel_rfl) (by kernel_rfl) (by kernel_rfl) (by rfl) (v := ?_) (fun _ _ _ h => h) hHeld (fun w hSw => ?_) ?_
                  rotate_left
                  · (try dsimp only at hSw); go_simp <;> (with_reducible rfl)
                  (try simp only [Act.put, List.setIfInBounds_toArray, List.set_cons_zero, List.set_cons_succ])
                  refine rg_in 11 rfl (by kernel_rfl) (by kernel_rfl) (by kernel_rfl) (by rfl) (v := ?_) (fun _ _ _ h => h) hHeld (fun w hSw => ?_) ?_
                  rotate_left
                  · (try dsimp only at hSw); go_simp <;> (with_reducible rfl)
                  (try simp only [Act.put, List.setIfInBounds_toArray, List.set_cons_zero, List.set_cons_succ])
                  refine rg_in 12 rfl (by kernel_rfl) (by kernel_rfl) (by kernel_rfl) (by rfl) (v := ?_) (fun _ _ _ h => h) hHeld (fun w hSw => ?_) ?_
                  rotate_left
                  · (try dsimp only at hSw); go_simp <;> (with_reducible rfl)
                  (try simp only [Act.put, List.setIfInBounds_toArray, List.set_cons_zero, List.set_cons_succ])
                  refine rg_in 13 rfl (by kernel_rfl) (by kernel_rfl) (by kernel_rfl) (by rfl) (v := ?_) (fun _ _ _ h => h) hHeld (fun w hSw => ?_) ?_
                  rotate_left
                  · (try dsimp only at hSw); go_simp <;> (with_reducible rfl)
                  (try simp only [Act.put, List.setIfInBounds_toArray, List.set_cons_zero, List.set_cons_succ])
                  refine rg_in 14 rfl (by kernel_rfl) (by kernel_rfl) (by kernel_rfl) (by rfl) (v := ?_) (fun _ _ _ h => h) hHeld (fun w hSw => ?_) ?_
                  rotate_left
                  · (try dsimp only at hSw); go_simp <;> (with_reducible rfl)
                  (try simp only [Act.put, List.setIfInBounds_toArray, List.set_cons_zero, List.set_cons_succ])
                  refine rg_in 15 rfl (by kernel_rfl) (by kernel_rfl) (by kernel_rfl) (by rfl) (v := ?_) (fun _ _ _ h => h) hHeld (fun w hSw => ?_) ?_
                  rotate_left
                  · (try dsimp only at hSw); go_simp <;> (with_reducible rfl)
                  (try simp only [Act.put, List.setIfInBounds_toArray, List.set_cons_zero, List.set_cons_succ])
                  refine rg_off 16 rfl (by kernel_rfl) (by kernel_rfl) (by kernel_rfl) (by rfl) (fun _ _ _ h => h) hHeld ?_
                  (try simp only [Act.put, List.setIfInBounds_toArray, List.set_cons_zero, List.set_cons_succ])
                  refine rg_off 17 rfl (by kernel_rfl) (by kernel_rfl) (by kernel_rfl) (by rfl) (fun _ _ _ h => h) hHeld ?_
                  (try simp only [Act.put, List.setIfInBounds_toArray, List.set_cons_zero, List.set_cons_succ])
                  refine rg_off 18 rfl (by kernel_rfl) (by kernel_rfl) (by kernel_rfl) (by rfl) (fun _ _ _ h => h) hHeld ?_
                  (try simp only [Act.put, List.setIfInBounds_toArray, List.set_cons_zero, List.set_cons_succ])
                  refine rg_off 19 rfl (by kernel_rfl) (by kernel_rfl) (by kernel_rfl) (by rfl) (fun _ _ _ h => h) hHeld ?_
                  (try simp only [Act.put, List.setIfInBounds_toArray, List.set_cons_zero, List.set_cons_succ])
                  refine rg_off 20 rfl (by kernel_rfl) (by kernel_rfl) (by kernel_rfl) (by rfl) (fun _ _ _ h => h) hHeld ?_
                  (try simp only [Act.put, List.setIfInBounds_toArray, List.set_cons_zero, List.set_cons_succ])
                  refine rg_off 21 rfl (by kernel_rfl) (by kernel_rfl) (by kernel_rfl) (by rfl) (fun _ _ _ h => h) hHeld ?_
                  (try simp only [Act.put, List.setIfInBounds_toArray, List.set_cons_zero, List.set_cons_succ])
                  refine rg_off 22 rfl (by kernel_rfl) (by kernel_rfl) (by kernel_rfl) (by rfl) (fun _ _ _ h => h) hHeld ?_
                  (try simp only [Act.put, List.setIfInBounds_toArray, List.set_cons_zero, List.set_cons_succ])
                  refine rg_off 23 rfl (by kernel_rfl) (by kernel_rfl) (by kernel_rfl) (by rfl) (fun _ _ _ h => h) hHeld ?_
                  (try simp only [Act.put, List.setIfInBounds_toArray, List.set_cons_zero, List.set_cons_succ])
                  refine rg_off 24 rfl (by kernel_rfl) (by kernel_rfl) (by kernel_rfl) (by rfl) (fun _ _ _ h => h) hHeld ?_
                  (try simp only [Act.put, List.setIfInBounds_toArray, List.set_cons_zero, List.set_cons_succ])
                  refine rg_off 25 rfl (by kernel_rfl) (by kernel_rfl) (by kernel_rfl) (by rfl) (fun _ _ _ h => h) hHeld ?_
                  (try simp only [Act.put, List.setIfInBounds_toArray, List.set_cons_zero, List.set_cons_succ])
                  refine rg_off 26 rfl (by kernel_rfl) (by kernel_rfl) (by kernel_rfl) (by rfl) (fun _ _ _ h => h) hHeld ?_
                  (try simp only [Act.put, List.setIfInBounds_toArray, List.set_cons_zero, List.set_cons_succ])
                  refine rg_off 27 rfl (by kernel_rfl) (by kernel_rfl) (by kernel_rfl) (by rfl) (fun _ _ _ h => h) hHeld ?_
                  (try simp only [Act.put, List.setIfInBounds_toArray, List.set_cons_zero, List.set_cons_succ])
                  refine rg_off 28 rfl (by kernel_rfl) (by kernel_rfl) (by kernel_rfl) (by rfl) (fun _ _ _ h => h) hHeld ?_
                  (try simp only [Act.put, List.setIfInBounds_toArray, List.set_cons_zero, List.set_cons_succ])
                  refine rg_in 29 rfl (by kernel_rfl) (by kernel_rfl) (by kernel_rfl) (by rfl) (v := ?_) (fun _ _ _ h => h) hHeld (fun w hSw => ?_) ?_
                  rotate_left
                  · (try dsimp only at hSw); go_simp <;> (with_reducible rfl)
                  (try simp only [Act.put, List.setIfInBounds_toArray, List.set_cons_zero, List.set_cons_succ])
                  refine rg_in 30 rfl (by kernel_rfl) (by kernel_rfl) (by kernel_rfl) (by rfl) (v := ?_) (fun _ _ _ h => h) hHeld (fun w hSw => ?_) ?_
                  rotate_left
                  · (try dsimp only at hSw); go_simp <;> (with_reducible rfl)
                  (try simp only [Act.put, List.setIfInBounds_toArray, List.set_cons_zero, List.set_cons_succ])
                  refine rg_off 31 rfl (by kernel_rfl) (by kernel_rfl) (by kernel_rfl) (by rfl) (fun _ _ _ h => h) hHeld ?_
                  (try simp only [Act.put, List.setIfInBounds_toArray, List.set_cons_zero, List.set_cons_succ])
                  refine rg_off 32 rfl (by kernel_rfl) (by kernel_rfl) (by kernel_rfl) (by rfl) (fun _ _ _ h => h) hHeld ?_
                  (try simp only [Act.put, List.setIfInBounds_toArray, List.set_cons_zero, List.set_cons_succ])
                  refine rg_off 33 rfl (by kernel_rfl) (by kernel_rfl) (by kernel_rfl) (by rfl) (fun _ _ _ h => h) hHeld ?_
                  (try simp only [Act.put, List.setIfInBounds_toArray, List.set_cons_zero, List.set_cons_succ])
                  refine rg_off 34 rfl (by kernel_rfl) (by kernel_rfl) (by kernel_rfl) (by rfl) (fun _ _ _ h => h) hHeld ?_
                  (try simp only [Act.put, List.setIfInBounds_toArray, List.set_cons_zero, List.set_cons_succ])
                  refine rg_off 35 rfl (by kernel_rfl) (by kernel_rfl) (by kernel_rfl) (by rfl) (fun _ _ _ h => h) hHeld ?_
                  (try simp only [Act.put, List.setIfInBounds_toArray, List.set_cons_zero, List.set_cons_succ])
                  refine rg_off 36 rfl (by kernel_rfl) (by kernel_rfl) (by kernel_rfl) (by rfl) (fun _ _ _ h => h) hHeld ?_
                  (try simp only [Act.put, List.setIfInBounds_toArray, List.set_cons_zero, List.set_cons_succ])
                  refine rg_off 37 rfl (by kernel_rfl) (by kernel_rfl) (by kernel_rfl) (by rfl) (fun _ _ _ h => h) hHeld ?_
                  (try simp only [Act.put, List.setIfInBounds_toArray, List.set_cons_zero, List.set_cons_succ])
                  refine rg_off 38 rfl (by kernel_rfl) (by kernel_rfl) (by kernel_rfl) (by rfl) (fun _ _ _ h => h) hHeld ?_
                  (try simp only [Act.put, List.setIfInBounds_toArray, List.set_cons_zero, List.set_cons_succ])
                  refine rg_off 39 rfl (by kernel_rfl) (by kernel_rfl) (by kernel_rfl) (by rfl) (fun _ _ _ h => h) hHeld ?_
                  (try simp only [Act.put, List.setIfInBounds_toArray, List.set_cons_zero, List.set_cons_succ])
                  refine rg_off 40 rfl (by kernel_rfl) (by kernel_rfl) (by kernel_rfl) (by rfl) (fun _ _ _ h => h) hHeld ?_
                  (try simp only [Act.put, List.setIfInBounds_toArray, List.set_cons_zero, List.set_cons_succ])
                  refine rg_off 41 rfl (by kernel_rfl) (by kernel_rfl) (by kernel_rfl) (by rfl) (fun _ _ _ h => h) hHeld ?_
                  (try simp only [Act.put, List.setIfInBounds_toArray, List.set_cons_zero, List.set_cons_succ])
                  refine rg_off 42 rfl (by kernel_rfl) (by kernel_rfl) (by kernel_rfl) (by rfl) (fun _ _ _ h => h) hHeld ?_
                  (try simp only [Act.put, List.setIfInBounds_toArray, List.set_cons_zero, List.set_cons_succ])
                  refine rg_off 43 rfl (by kernel_rfl) (by kernel_rfl) (by kernel_rfl) (by rfl) (fun _ _ _ h => h) hHeld ?_
                  (try simp only [Act.put, List.setIfInBounds_toArray, List.set_cons_zero, List.set_cons_succ])
                  refine rg_in 44 rfl (by kernel_rfl) (by kernel_rfl) (by kernel_rfl) (by rfl) (v := ?_) (fun _ _ _ h => h) hHeld (fun w hSw => ?_) ?_
                  rotate_left
                  · (try dsimp only at hSw); go_simp <;> (with_reducible rfl)
                  (try simp only [Act.put, List.setIfInBounds_toArray, List.set_cons_zero, List.set_cons_succ])
                  refine wpAnyH_done (by kernel_rfl) ?_ _
                  clear hHeld k1 k2 rm2 rn2 rx0 rx1 rx2 rx3 rx4 rx5 rx6 rx7 ry0 ry1 ry2 ry3 ry4 ry5 ry6 ry7
                  go_wp2
                  go_ret
                  exact ⟨_, rfl, no_iff HNO.out, hbzx.drew⟩
              · obtain rfl : M = i := by omega
                have HYES : Hid (X.s = Y.s) := Lib.hid (by
                  have h := HPR.out
                  rw [List.take_of_length_le (by rw [HLX.out.2, HMM.out]; exact Nat.le_refl _), List.take_of_length_le (by rw [HLY.out.2, ← HIK.out.2, HMM.out]; exact Nat.le_refl _)] at h
                  unfold NoT.s
                  rw [HXL1.out, HYL1.out, HIS.out, h])
                clear hlt hi HPR
                go_wp2
                go_ret
                exact ⟨_, rfl, ⟨fun _ => HYES.out, fun _ => rfl⟩, hbzx⟩
      · have HNO : Hid (¬ X.s = Y.s) := Lib.hid fun h => hke (hkn h)
        subst hle
        rw [hxl] at m0 hb ⊢
        rw [hyl] at n0 hb ⊢
        rw [← hie] at n1 hb ⊢
        have e2 : ((X.kN : Int) == (Y.kN : Int)) = false := by simp; omega
        have e3 : (X.kN == Y.kN) = false := by simp; omega
        have e4 : ((X.kN : Int) != (Y.kN : Int)) = true := by simp; omega
        have e5 : (X.kN != Y.kN) = true := by simp; omega
        clear hxl hyl hie hke hsl hsi hsk hin hkn
        go_wp2
        go_ret
        exact ⟨_, rfl, no_iff HNO.out, hb⟩
    · have HNO : Hid (¬ X.s = Y.s) := Lib.hid fun h => hie (hin h)
      subst hle
      rw [hxl] at m0 hb ⊢
      rw [hyl] at n0 hb ⊢
      have e2 : ((X.iN : Int) == (Y.iN : Int)) = false := by simp; omega
      have e3 : (X.iN == Y.iN) = false := by simp; omega
      have e4 : ((X.iN : Int) != (Y.iN : Int)) = true := by simp; omega
      have e5 : (X.iN != Y.iN) = true := by simp; omega
      clear hxl hyl hie hsl hsi hsk hin hkn
      go_wp2
      go_ret
      exact ⟨_, rfl, no_iff HNO.out, hb⟩
  · have HNO : Hid (¬ X.s = Y.s) := Lib.hid (fun h => hle (by rw [← hxl, ← hyl]; exact hsl h))
    rw [hxl] at m0 hb ⊢
    rw [hyl] at n0 hb ⊢
    clear hxl hyl hsl hsi hsk hin hkn
    cases xl <;> cases yl
    · exact absurd rfl hle
    · go_wp2
      go_ret
      exact ⟨_, rfl, no_iff HNO.out, hb⟩
    · go_wp2
      go_ret
      exact ⟨_, rfl, no_iff HNO.out, hb⟩
    · exact absurd rfl hle
end Go.Proofs.Ytnfohlabmidliaa
