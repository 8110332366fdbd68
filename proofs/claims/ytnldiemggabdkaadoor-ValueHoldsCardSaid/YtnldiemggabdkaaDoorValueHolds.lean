/-
  ValueHolds: the kids of a valid value are valid, and determine its depth and its nodes; an object returns each of them by its key: the walk.
-/
import Derived.Test.YtnldiemggabdkaaDoorValD
import Derived.Test.YtnldiemggabdkaaDoorRg
namespace Go.Proofs.YtnldiemggabdkaaDoor
open Go.RowKit
set_option linter.unusedVariables false

set_option maxRecDepth 20000 in
set_option maxHeartbeats 1500000 in
theorem vholds_any (w : World) (T : VT) (B : Nat) (hL : Lie w B T) (hB : B ≤ w.heap.size) (htab : UTab w) (hst : STab w) :
    Calls Tryd.prog 6 #[T.agg] w fun e w' => e = .returned (.bool true) ∧ Below w.heap.size w w' := by
  have HW := Lib.hid (fun W (h : Below w.heap.size w W) => vwakes_any W (htab.below h htab.lt) (hst.below h hst.lt))
  have HC := Lib.hid (fun W (h : Below w.heap.size w W) => vcheck_any B W T (hL.later (h.mono hB)) (Nat.le_trans hB h.size) (htab.below h htab.lt) (hst.below h hst.lt))
  have HD := Lib.hid (fun W (h : Below w.heap.size w W) => depth_any B W T (hL.later (h.mono hB)) (Nat.le_trans hB h.size) (htab.below h htab.lt) (hst.below h hst.lt))
  have HN := Lib.hid (fun W (h : Below w.heap.size w W) => vcount_any B W T (hL.later (h.mono hB)) (Nat.le_trans hB h.size) (htab.below h htab.lt) (hst.below h hst.lt))
  by_cases hok : T.ok = true
  · have hdr : T.depR = T.dep := by unfold VT.depR; rw [if_pos hok]
    have hcr : T.cntR = T.cnt := by unfold VT.cntR; rw [if_pos hok]
    rw [hdr] at HD
    rw [hcr] at HN
    simp only [if_pos hok] at HC
    obtain ⟨hd8, hc256⟩ := ok_bounds hok
    have HL := Lib.hid hL
    have Hok := Lib.hid hok
    have Htab := Lib.hid htab
    have Hst := Lib.hid hst
    obtain ⟨k, n, s, cA, cn, cc, kA, kn, kc, keys, kids⟩ := T
    have hsh := hL
    cases hsh with | mk hkc hkk hkz hkid =>
    have hlc := kids_len hkc
    have hlk := keys_len hkk
    obtain ⟨h255, hkeys⟩ := ok_keys hok hlc
    have Hdep := Lib.hid (dep_mk k n s cA cn cc kA kn kc keys kids)
    have Hcnt := Lib.hid (cnt_mk k n s cA cn cc kA kn kc keys kids)
    simp only [VT.agg] at HC HD HN ⊢
    generalize hdv : VT.dep (.mk k n s cA cn cc kA kn kc keys kids) = D at *
    generalize hcv : VT.cnt (.mk k n s cA cn cc kA kn kc keys kids) = C at *
    have Hkc := Lib.hid hkc
    have Hkk := Lib.hid hkk
    have Hkid := Lib.hid hkid
    have Hlc := Lib.hid hlc
    have Hlk := Lib.hid hlk
    have Hkeys := Lib.hid hkeys
    have hb := bel_alloc (Below.refl w.heap.size w) (.cells #[.int .i64 k, .int .i64 n, .string s, .slice cA cn cc, .slice kA kn kc] 25)
    have Hv := Lib.hid (VFive.new w (.int .i64 k) (.int .i64 n) (.string s) (.slice cA cn cc) (.slice kA kn kc) 25 w.heap.size rfl)
    clear hL hok htab hst hkc hkk hkz hkid hlc hlk hkeys hdr hcr hdv hcv
    go_enter Tryd.func6, Tryd.ntmps6
    go_wp2_with fail
    refine (HW.out _ hb).mono ?_
    rintro e w1 ⟨rfl, hb1⟩
    have hb2 := bel_next hb hb1
    have Hv1 := Lib.hid (Hv.out.later hb1)
    clear Hv hb1 hb
    obtain ⟨⟨v0, v1, v2, v3, v4⟩, -⟩ := Hv1.out
    go_wp2_with fail
    refine (HC.out _ hb2).mono ?_
    rintro e w2 ⟨rfl, hb3⟩
    have hb4 := bel_next hb2 hb3
    have Hv2 := Lib.hid (Hv1.out.later hb3)
    clear v0 v1 v2 v3 v4 Hv1 hb2 hb3
    obtain ⟨⟨v0, v1, v2, v3, v4⟩, -⟩ := Hv2.out
    go_wp2
    go_loopw [3, 4, 29] (fun d m i wr => ∃ (j a c : Nat), j ≤ cn ∧ i = .int .i64 j ∧ d = .int .i64 a ∧ m = .int .i64 c ∧ Hid (a = maxL ((kids.take j).map VT.dep) ∧ c = 1 + ((kids.take j).map VT.cnt).sum) ∧ a ≤ 8 ∧ c ≤ 1000 ∧ Below w.heap.size w wr ∧ Hid (VFive wr w.heap.size (.int .i64 k) (.int .i64 n) (.string s) (.slice cA cn cc) (.slice kA kn kc))) (fun _ _ i _ => cn - (intOf i).toNat)
    case atStart => exact ⟨0, 0, 1, Nat.zero_le _, rfl, rfl, rfl, Lib.hid ⟨rfl, rfl⟩, by omega, by omega, hb4, Hv2⟩
    case round =>
      obtain ⟨j, a, c, hj, rfl, rfl, rfl, HI, ha8, hc1000, hbr, Hvr⟩ := hrel
      clear v0 v1 v2 v3 v4
      obtain ⟨⟨v0, v1, v2, v3, v4⟩, -⟩ := Hvr.out
      by_cases hlt : j < cn
      · obtain ⟨b, off, x, rfl, _, hx, h5⟩ := kids_at (Hkc.out.below (hbr.mono hB)) hlt
        have hmem : x ∈ kids := List.mem_of_getElem? hx
        have hxok : x.ok = true := ok_kid Hok.out (show x ∈ VT.kids (VT.mk k n s (some ⟨b, off, none⟩) cn cc kA kn kc keys kids) from hmem)
        have hxL := Hkid.out x hmem
        have hdx : x.depR = x.dep := by unfold VT.depR; rw [if_pos hxok]
        have hcx : x.cntR = x.cnt := by unfold VT.cntR; rw [if_pos hxok]
        have Hxc := Lib.hid (fun W (h : Below w.heap.size w W) => vcheck_any B W x (hxL.later (h.mono hB)) (Nat.le_trans hB h.size) (Htab.out.below h Htab.out.lt) (Hst.out.below h Hst.out.lt))
        have Hxd := Lib.hid (fun W (h : Below w.heap.size w W) => depth_any B W x (hxL.later (h.mono hB)) (Nat.le_trans hB h.size) (Htab.out.below h Htab.out.lt) (Hst.out.below h Hst.out.lt))
        have Hxn := Lib.hid (fun W (h : Below w.heap.size w W) => vcount_any B W x (hxL.later (h.mono hB)) (Nat.le_trans hB h.size) (Htab.out.below h Htab.out.lt) (Hst.out.below h Hst.out.lt))
        have Hxr := Lib.hid (fun key (hg : VT.get (VT.mk k n s (some ⟨b, off, none⟩) cn cc kA kn kc keys kids) key = some x) W (h : Below w.heap.size w W) => reaches_yes (VT.mk k n s (some ⟨b, off, none⟩) cn cc kA kn kc keys kids) x key B W (HL.out.later (h.mono hB)) (hxL.later (h.mono hB)) (Nat.le_trans hB h.size) Hok.out hxok hg (Htab.out.below h Htab.out.lt) (Hst.out.below h Hst.out.lt))
        rw [hdx] at Hxd
        rw [hcx] at Hxn
        simp only [if_pos hxok] at Hxc
        obtain ⟨hdx8, hcx256⟩ := ok_bounds hxok
        have HI2 := Lib.hid (show max a x.dep = maxL ((kids.take (j + 1)).map VT.dep) ∧ c + x.cnt = 1 + ((kids.take (j + 1)).map VT.cnt).sum by
          rw [dep_take hx, cnt_take hx, HI.out.1, HI.out.2]; exact ⟨rfl, rfl⟩)
        have Hct := Lib.hid (show c + x.cnt ≤ 1000 by
          have h1 := HI2.out.2
          have h2 := cnt_pre kids (j + 1)
          have h3 := Hcnt.out
          omega)
        have Hx := Lib.hid hx
        generalize hdv : x.dep = dx at *
        generalize hcv : x.cnt = cx at *
        clear hdv hcv hdx hcx hxok hxL hmem hx HI
        obtain ⟨k', n', s', cA', cn', cc', kA', kn', kc', keys', kids'⟩ := x
        simp only [VT.agg] at Hxc Hxd Hxn Hxr
        obtain ⟨g0, g1, g2, g3, g4⟩ := h5
        have hlt' : (j : Int) < cn := by omega
        have hj0 : (0 : Int) ≤ j := by omega
        have hb5 := bel_alloc hbr (.cells #[.int .i64 k', .int .i64 n', .string s', .slice cA' cn' cc', .slice kA' kn' kc'] 25)
        have HV1 := Lib.hid (Hvr.out.alloc (.cells #[.int .i64 k', .int .i64 n', .string s', .slice cA' cn' cc', .slice kA' kn' kc'] 25))
        have HX1 := Lib.hid (VFive.new wr (.int .i64 k') (.int .i64 n') (.string s') (.slice cA' cn' cc') (.slice kA' kn' kc') 25 wr.heap.size rfl)
        go_upto_region 9 with fail
        clear v0 v1 v2 v3 v4 g0 g1 g2 g3 g4
        have HK1 := Lib.hid (Hkk.out.below (hb5.mono hB))
        have hS00 := Below.refl (wr.alloc (.cells #[.int .i64 k', .int .i64 n', .string s', .slice cA' cn' cc', .slice kA' kn' kc'] 25)).heap.size (wr.alloc (.cells #[.int .i64 k', .int .i64 n', .string s', .slice cA' cn' cc', .slice kA' kn' kc'] 25))
        generalize (wr.alloc (.cells #[.int .i64 k', .int .i64 n', .string s', .slice cA' cn' cc', .slice kA' kn' kc'] 25)) = W1 at *
        have v0 : ∀ W, Below W1.heap.size W1 W → W.cell? ⟨w.heap.size, 0, none⟩ = some (.int .i64 k) := fun W h => (HV1.out.later h).1.1
        have v1 : ∀ W, Below W1.heap.size W1 W → W.cell? ⟨w.heap.size, 1, none⟩ = some (.int .i64 n) := fun W h => (HV1.out.later h).1.2.1
        have v2 : ∀ W, Below W1.heap.size W1 W → W.cell? ⟨w.heap.size, 2, none⟩ = some (.string s) := fun W h => (HV1.out.later h).1.2.2.1
        have v3 : ∀ W, Below W1.heap.size W1 W → W.cell? ⟨w.heap.size, 3, none⟩ = some (.slice (some ⟨b, off, none⟩) cn cc) := fun W h => (HV1.out.later h).1.2.2.2.1
        have v4 : ∀ W, Below W1.heap.size W1 W → W.cell? ⟨w.heap.size, 4, none⟩ = some (.slice kA kn kc) := fun W h => (HV1.out.later h).1.2.2.2.2
        have x0 : ∀ W, Below W1.heap.size W1 W → W.cell? ⟨wr.heap.size, 0, none⟩ = some (.int .i64 k') := fun W h => (HX1.out.later h).1.1
        have x1 : ∀ W, Below W1.heap.size W1 W → W.cell? ⟨wr.heap.size, 1, none⟩ = some (.int .i64 n') := fun W h => (HX1.out.later h).1.2.1
        have x2 : ∀ W, Below W1.heap.size W1 W → W.cell? ⟨wr.heap.size, 2, none⟩ = some (.string s') := fun W h => (HX1.out.later h).1.2.2.1
        have x3 : ∀ W, Below W1.heap.size W1 W → W.cell? ⟨wr.heap.size, 3, none⟩ = some (.slice cA' cn' cc') := fun W h => (HX1.out.later h).1.2.2.2.1
        have x4 : ∀ W, Below W1.heap.size W1 W → W.cell? ⟨wr.heap.size, 4, none⟩ = some (.slice kA' kn' kc') := fun W h => (HX1.out.later h).1.2.2.2.2
        have hS0 : Below W1.heap.size W1 W1.drew := below_drewN (Below.refl _ _) 1
        have HXC := Lib.hid (fun W (h : Below W1.heap.size W1 W) => Hxc.out W (bel_next hb5 h))
        have HXD := Lib.hid (fun W (h : Below W1.heap.size W1 W) => Hxd.out W (bel_next hb5 h))
        have HXN := Lib.hid (fun W (h : Below W1.heap.size W1 W) => Hxn.out W (bel_next hb5 h))
        have HXR := Lib.hid (fun key hg W (h : Below W1.heap.size W1 W) => Hxr.out key hg W (bel_next hb5 h))
        clear Hxc Hxd Hxn Hxr
        go_cut [54] (fun s wx => s = .bool false ∧ Below W1.heap.size W1 wx)
        case first =>
          by_cases h6 : k = 6
          · have hkk := Hkeys.out
            rw [if_pos h6] at hkk
            have hjk : j < kn := by omega
            have hjk' : (j : Int) < kn := by omega
            obtain ⟨b', off', rfl, _, _⟩ := key_at HK1.out hjk
            have hkey : ∀ W, Below W1.heap.size W1 W → W.cell? ⟨b', off' + j, none⟩ = some (.string (keys.getD j ⟨#[]⟩)) := fun W h => by
              obtain ⟨b2, o2, e, _, hc2⟩ := key_at (HK1.out.below (h.mono (Nat.le_trans hB hb5.size))) hjk
              injection e with e
              injection e with e1 e2
              subst e1; subst e2
              exact hc2
            have hget : VT.get (VT.mk k n s (some ⟨b, off, none⟩) cn cc (some ⟨b', off', none⟩) kn kc keys kids) (keys.getD j ⟨#[]⟩) = some (VT.mk k' n' s' cA' cn' cc' kA' kn' kc' keys' kids') := by
              show (if k = 6 then getK keys kids _ else none) = _
              rw [if_pos h6, getK_some keys kids _ j (by rw [Hlk.out]; exact hjk) (by rw [Hlc.out]; exact hlt) rfl (fun q hq => vless_ne (keysB_ord hkk.2 j q hq (by rw [Hlk.out]; exact hjk)))]
              exact Hx.out
            have HXK := Lib.hid (HXR.out _ hget)
            generalize keys.getD j ⟨#[]⟩ = key at *
            clear hkk hget h6 HXR
            go_region_held3 (fun W => Below W1.heap.size W1 W) (first | (with_reducible assumption) | exact Below.drew (by with_reducible assumption))
              (first
                | (go_at_call 12; (with_reducible refine (HXC.out _ (by first | (with_reducible assumption) | exact Below.drew (by with_reducible assumption))).mono ?_); (rintro e wA ⟨rfl, hbA⟩); (have hSA := S_call hbA (by first | (with_reducible assumption) | exact Below.drew (by with_reducible assumption)) rfl))
                | (go_at_call 36; (with_reducible refine (HXK.out _ (by first | (with_reducible assumption) | exact Below.drew (by with_reducible assumption))).mono ?_); (rintro e wB ⟨rfl, hbB⟩); (have hSB := S_call hbB (by first | (with_reducible assumption) | exact Below.drew (by with_reducible assumption)) rfl)))
            all_goals
              go_wp2
              go_meet
              case rel => exact ⟨rfl, by first | (with_reducible assumption) | exact Below.drew (by with_reducible assumption)⟩
          · have hkk := Hkeys.out
            rw [if_neg h6] at hkk
            subst hkk
            have hge : ((j : Int) < ((0 : Nat) : Int)) = False := by simp
            have hge2 : ((j : Int) < 0) = False := by simp
            have hgd : decide ((j : Int) < 0) = false := by simp
            have hgd2 : decide ((j : Int) < ((0 : Nat) : Int)) = false := by simp
            clear h6 HXR
            refine wp_region_held_drew (S := fun W => Below W1.heap.size W1 W) (by kernel_rfl) hS0 (fun hHeld => ?_)
            refine rg_in 0 rfl (by kernel_rfl) (by kernel_rfl) (by kernel_rfl) (by rfl) (v := ?_) (fun _ _ _ h => h) hHeld (fun w hSw => ?_) ?_
            rotate_left
            · (try dsimp only at hSw); go_simp <;> (with_reducible rfl)
            (try simp only [Act.put, List.setIfInBounds_toArray, List.set_cons_zero, List.set_cons_succ])
            refine rg_do 1 rfl (by kernel_rfl) (by rfl) (fun K hK => ?_)
            go_simp
            (go_at_call 12; (with_reducible refine (HXC.out _ hHeld).mono ?_); (rintro e wA ⟨rfl, hbA⟩); (have hSA := S_call hbA hHeld rfl))
            refine hK.out _ _ (by with_reducible assumption) (fun hHeld => ?_)
            clear hK K
            (try simp only [Act.put, List.setIfInBounds_toArray, List.set_cons_zero, List.set_cons_succ])
            refine rg_in 2 rfl (by kernel_rfl) (by kernel_rfl) (by kernel_rfl) (by rfl) (v := ?_) (fun _ _ _ h => h) hHeld (fun w hSw => ?_) ?_
            rotate_left
            · (try dsimp only at hSw); go_simp <;> (with_reducible rfl)
            (try simp only [Act.put, List.setIfInBounds_toArray, List.set_cons_zero, List.set_cons_succ])
            refine rg_in 3 rfl (by kernel_rfl) (by kernel_rfl) (by kernel_rfl) (by rfl) (v := ?_) (fun _ _ _ h => h) hHeld (fun w hSw => ?_) ?_
            rotate_left
            · (try dsimp only at hSw); go_simp <;> (with_reducible rfl)
            (try simp only [Act.put, List.setIfInBounds_toArray, List.set_cons_zero, List.set_cons_succ])
            refine rg_in 4 rfl (by kernel_rfl) (by kernel_rfl) (by kernel_rfl) (by rfl) (v := ?_) (fun _ _ _ h => h) hHeld (fun w hSw => ?_) ?_
            rotate_left
            · (try dsimp only at hSw); go_simp <;> (with_reducible rfl)
            (try simp only [Act.put, List.setIfInBounds_toArray, List.set_cons_zero, List.set_cons_succ])
            refine rg_in 5 rfl (by kernel_rfl) (by kernel_rfl) (by kernel_rfl) (by rfl) (v := ?_) (fun _ _ _ h => h) hHeld (fun w hSw => ?_) ?_
            rotate_left
            · (try dsimp only at hSw); go_simp <;> (with_reducible rfl)
            (try simp only [Act.put, List.setIfInBounds_toArray, List.set_cons_zero, List.set_cons_succ])
            refine rg_in 6 rfl (by kernel_rfl) (by kernel_rfl) (by kernel_rfl) (by rfl) (v := ?_) (fun _ _ _ h => h) hHeld (fun w hSw => ?_) ?_
            rotate_left
            · (try dsimp only at hSw); go_simp <;> (with_reducible rfl)
            (try simp only [Act.put, List.setIfInBounds_toArray, List.set_cons_zero, List.set_cons_succ])
            refine rg_in 7 rfl (by kernel_rfl) (by kernel_rfl) (by kernel_rfl) (by rfl) (v := ?_) (fun _ _ _ h => h) hHeld (fun w hSw => ?_) ?_
            rotate_left
            · (try dsimp only at hSw); go_simp <;> (with_reducible rfl)
            (try simp only [Act.put, List.setIfInBounds_toArray, List.set_cons_zero, List.set_cons_succ])
            refine rg_in 8 rfl (by kernel_rfl) (by kernel_rfl) (by kernel_rfl) (by rfl) (v := ?_) (fun _ _ _ h => h) hHeld (fun w hSw => ?_) ?_
            rotate_left
            · (try dsimp only at hSw); go_simp <;> (with_reducible rfl)
            (try simp only [Act.put, List.setIfInBounds_toArray, List.set_cons_zero, List.set_cons_succ])
            refine rg_in 9 rfl (by kernel_rfl) (by kernel_rfl) (by kernel_rfl) (by rfl) (v := ?_) (fun _ _ _ h => h) hHeld (fun w hSw => ?_) ?_
            rotate_left
            · (try dsimp only at hSw); go_simp <;> (with_reducible rfl)
            (try simp only [Act.put, List.setIfInBounds_toArray, List.set_cons_zero, List.set_cons_succ])
            refine rg_off 10 rfl (by kernel_rfl) (by kernel_rfl) (by kernel_rfl) (by rfl) (fun _ _ _ h => h) hHeld ?_
            (try simp only [Act.put, List.setIfInBounds_toArray, List.set_cons_zero, List.set_cons_succ])
            refine rg_off 11 rfl (by kernel_rfl) (by kernel_rfl) (by kernel_rfl) (by rfl) (fun _ _ _ h => h) hHeld ?_
            (try simp only [Act.put, List.setIfInBounds_toArray, List.set_cons_zero, List.set_cons_succ])
            refine rg_off 12 rfl (by kernel_rfl) (by kernel_rfl) (by kernel_rfl) (by rfl) (fun _ _ _ h => h) hHeld ?_
            (try simp only [Act.put, List.setIfInBounds_toArray, List.set_cons_zero, List.set_cons_succ])
            refine rg_off 13 rfl (by kernel_rfl) (by kernel_rfl) (by kernel_rfl) (by rfl) (fun _ _ _ h => h) hHeld ?_
            (try simp only [Act.put, List.setIfInBounds_toArray, List.set_cons_zero, List.set_cons_succ])
            refine rg_off 14 rfl (by kernel_rfl) (by kernel_rfl) (by kernel_rfl) (by rfl) (fun _ _ _ h => h) hHeld ?_
            (try simp only [Act.put, List.setIfInBounds_toArray, List.set_cons_zero, List.set_cons_succ])
            refine rg_off 15 rfl (by kernel_rfl) (by kernel_rfl) (by kernel_rfl) (by rfl) (fun _ _ _ h => h) hHeld ?_
            (try simp only [Act.put, List.setIfInBounds_toArray, List.set_cons_zero, List.set_cons_succ])
            refine rg_off 16 rfl (by kernel_rfl) (by kernel_rfl) (by kernel_rfl) (by rfl) (fun _ _ _ h => h) hHeld ?_
            (try simp only [Act.put, List.setIfInBounds_toArray, List.set_cons_zero, List.set_cons_succ])
            refine rg_off 17 rfl (by kernel_rfl) (by kernel_rfl) (by kernel_rfl) (by rfl) (fun _ _ _ h => h) hHeld ?_
            (try simp only [Act.put, List.setIfInBounds_toArray, List.set_cons_zero, List.set_cons_succ])
            refine rg_off 18 rfl (by kernel_rfl) (by kernel_rfl) (by kernel_rfl) (by rfl) (fun _ _ _ h => h) hHeld ?_
            (try simp only [Act.put, List.setIfInBounds_toArray, List.set_cons_zero, List.set_cons_succ])
            refine rg_in 19 rfl (by kernel_rfl) (by kernel_rfl) (by kernel_rfl) (by rfl) (v := ?_) (fun _ _ _ h => h) hHeld (fun w hSw => ?_) ?_
            rotate_left
            · (try dsimp only at hSw); go_simp <;> (with_reducible rfl)
            (try simp only [Act.put, List.setIfInBounds_toArray, List.set_cons_zero, List.set_cons_succ])
            refine rg_in 20 rfl (by kernel_rfl) (by kernel_rfl) (by kernel_rfl) (by rfl) (v := ?_) (fun _ _ _ h => h) hHeld (fun w hSw => ?_) ?_
            rotate_left
            · (try dsimp only at hSw); go_simp <;> (with_reducible rfl)
            (try simp only [Act.put, List.setIfInBounds_toArray, List.set_cons_zero, List.set_cons_succ])
            refine wpAnyH_done (by kernel_rfl) ?_ _
            go_wp2
            go_meet
            case rel => exact ⟨rfl, by with_reducible assumption⟩
        case rest =>
          obtain ⟨rfl, hbc⟩ := hcut
          have HXD2 := Lib.hid (fun W (h : Below wc.heap.size wc W) => HXD.out W (hbc.trans (h.mono hbc.size)))
          have HXN2 := Lib.hid (fun W (h : Below wc.heap.size wc W) => HXN.out W (hbc.trans (h.mono hbc.size)))
          have y0 : ∀ W, Below wc.heap.size wc W → W.cell? ⟨wr.heap.size, 0, none⟩ = some (.int .i64 k') := fun W h => x0 W (hbc.trans (h.mono hbc.size))
          have y1 : ∀ W, Below wc.heap.size wc W → W.cell? ⟨wr.heap.size, 1, none⟩ = some (.int .i64 n') := fun W h => x1 W (hbc.trans (h.mono hbc.size))
          have y2 : ∀ W, Below wc.heap.size wc W → W.cell? ⟨wr.heap.size, 2, none⟩ = some (.string s') := fun W h => x2 W (hbc.trans (h.mono hbc.size))
          have y3 : ∀ W, Below wc.heap.size wc W → W.cell? ⟨wr.heap.size, 3, none⟩ = some (.slice cA' cn' cc') := fun W h => x3 W (hbc.trans (h.mono hbc.size))
          have y4 : ∀ W, Below wc.heap.size wc W → W.cell? ⟨wr.heap.size, 4, none⟩ = some (.slice kA' kn' kc') := fun W h => x4 W (hbc.trans (h.mono hbc.size))
          have hT0 : Below wc.heap.size wc wc.drew := below_drewN (Below.refl _ _) 1
          obtain ⟨mx, hmx⟩ : ∃ mx, mx = max a dx := ⟨_, rfl⟩
          rw [← hmx] at HI2
          have hm1 : max (a : Int) (dx : Int) = (mx : Int) := by omega
          have hm2 : (if (a : Int) < (dx : Int) then (dx : Int) else (a : Int)) = (mx : Int) := by split <;> omega
          have hmx8 : mx ≤ 8 := by omega
          have hwc : IntKind.i64.wrap ((c : Int) + (cx : Int)) = ((c + cx : Nat) : Int) := by
            rw [IntKind.wrap_i64]; omega
          have hb6 := bel_next hb5 hbc
          have HV2 := Lib.hid (HV1.out.later hbc)
          clear hmx x0 x1 x2 x3 x4 v0 v1 v2 v3 v4 HXD HXN HXC HXR HV1 HX1 HK1 hbc hS0 hS00
          go_upto_region 11 with fail
          go_region_held3 (fun W => Below wc.heap.size wc W) (first | (with_reducible assumption) | exact Below.drew (by with_reducible assumption))
            (first
              | (go_at_call 15; (with_reducible refine (HXD2.out _ (by first | (with_reducible assumption) | exact Below.drew (by with_reducible assumption))).mono ?_); (rintro e wA ⟨rfl, hbA⟩); (have hSA := S_call hbA (by first | (with_reducible assumption) | exact Below.drew (by with_reducible assumption)) rfl))
              | (go_at_call 16; (with_reducible refine (HXN2.out _ (by first | (with_reducible assumption) | exact Below.drew (by with_reducible assumption))).mono ?_); (rintro e wB ⟨rfl, hbB⟩); (have hSB := S_call hbB (by first | (with_reducible assumption) | exact Below.drew (by with_reducible assumption)) rfl)))
          all_goals
            go_wp2
            go_roundw
            case rel => exact ⟨j + 1, mx, c + cx, by omega, by go_num, by first | rfl | (rw [hm1]), by (first | rfl | (rw [hwc])), HI2, hmx8, Hct.out, bel_next hb6 (by first | (with_reducible assumption) | exact Below.drew (by with_reducible assumption)), Lib.hid (HV2.out.later (by first | (with_reducible assumption) | exact Below.drew (by with_reducible assumption)))⟩
            case measure => simp [intOf]; omega
      · have hjn : j = cn := by omega
        have hta : a = maxL (kids.map VT.dep) ∧ c = 1 + (kids.map VT.cnt).sum := by
          have := HI.out
          rw [hjn, ← Hlc.out, List.take_length] at this
          exact this
        have hC : C = c := by rw [hta.2]; exact Hcnt.out
        have hD : D = hN (k == 5 || k == 6) + a := by rw [hta.1]; exact Hdep.out
        subst hC
        clear hta HI
        by_cases h5 : k = 5
        · subst h5
          have hD1 : D = 1 + a := hD
          have he : ((D : Int) == (a : Int) + 1) = true := by rw [beq_iff_eq]; omega
          have hle : ((a : Int) + 1 ≤ 8) = True := by simp; omega
          have hle2 : ((C : Int) ≤ 256) = True := by simp; omega
          clear hD hD1 hjn
          go_wp2_with fail
          refine (HD.out _ hbr).mono ?_
          rintro e w3 ⟨rfl, hb5⟩
          have hb6 := bel_next hbr hb5
          obtain ⟨⟨z0, z1, z2, z3, z4⟩, -⟩ := Hvr.out.later hb5
          go_wp2_with fail
          refine (HN.out _ hb6).mono ?_
          rintro e w4 ⟨rfl, hb7⟩
          go_wp2
          go_ret
          exact ⟨rfl, bel_next hb6 hb7⟩
        · by_cases h6 : k = 6
          · subst h6
            have hD1 : D = 1 + a := hD
            have he : ((D : Int) == (a : Int) + 1) = true := by rw [beq_iff_eq]; omega
            have hle : ((a : Int) + 1 ≤ 8) = True := by simp; omega
            have hle2 : ((C : Int) ≤ 256) = True := by simp; omega
            clear hD hD1 hjn h5
            go_wp2_with fail
            refine (HD.out _ hbr).mono ?_
            rintro e w3 ⟨rfl, hb5⟩
            have hb6 := bel_next hbr hb5
            obtain ⟨⟨z0, z1, z2, z3, z4⟩, -⟩ := Hvr.out.later hb5
            go_wp2_with fail
            refine (HN.out _ hb6).mono ?_
            rintro e w4 ⟨rfl, hb7⟩
            go_wp2
            go_ret
            exact ⟨rfl, bel_next hb6 hb7⟩
          · have e5 : (k == 5) = false := by rw [beq_eq_false_iff_ne]; exact h5
            have e6 : (k == 6) = false := by rw [beq_eq_false_iff_ne]; exact h6
            have hD1 : D = a := by rw [hD, e5, e6]; show 0 + a = a; omega
            have he : ((D : Int) == (a : Int)) = true := by rw [beq_iff_eq]; omega
            have hle : ((a : Int) ≤ 8) = True := by simp; omega
            have hle2 : ((C : Int) ≤ 256) = True := by simp; omega
            clear hD hD1 hjn h5 h6
            go_wp2_with fail
            refine (HD.out _ hbr).mono ?_
            rintro e w3 ⟨rfl, hb5⟩
            have hb6 := bel_next hbr hb5
            obtain ⟨⟨z0, z1, z2, z3, z4⟩, -⟩ := Hvr.out.later hb5
            go_wp2_with fail
            refine (HN.out _ hb6).mono ?_
            rintro e w4 ⟨rfl, hb7⟩
            go_wp2
            go_ret
            exact ⟨rfl, bel_next hb6 hb7⟩
  · have hdr : T.depR = 0 := by unfold VT.depR; rw [if_neg hok]
    have hcr : T.cntR = 0 := by unfold VT.cntR; rw [if_neg hok]
    have hsr : sameR T T = false := by unfold sameR; rw [show T.ok = false by simpa using hok]; rfl
    have HS := Lib.hid (fun W (h : Below w.heap.size w W) => same_any B W T T (hL.later (h.mono hB)) (hL.later (h.mono hB)) (Nat.le_trans hB h.size) (htab.below h htab.lt) (hst.below h hst.lt))
    rw [hdr] at HD
    rw [hcr] at HN
    rw [hsr] at HS
    simp only [if_neg hok] at HC
    obtain ⟨k, n, s, cA, cn, cc, kA, kn, kc, keys, kids⟩ := T
    simp only [VT.agg] at HC HD HN HS ⊢
    have hb := bel_alloc (Below.refl w.heap.size w) (.cells #[.int .i64 k, .int .i64 n, .string s, .slice cA cn cc, .slice kA kn kc] 25)
    have Hv := Lib.hid (VFive.new w (.int .i64 k) (.int .i64 n) (.string s) (.slice cA cn cc) (.slice kA kn kc) 25 w.heap.size rfl)
    clear hL hok htab hst hdr hcr hsr
    go_enter Tryd.func6, Tryd.ntmps6
    go_wp2_with fail
    refine (HW.out _ hb).mono ?_
    rintro e w1 ⟨rfl, hb1⟩
    have hb2 := bel_next hb hb1
    have Hv1 := Lib.hid (Hv.out.later hb1)
    clear Hv hb1 hb
    obtain ⟨⟨v0, v1, v2, v3, v4⟩, -⟩ := Hv1.out
    go_wp2_with fail
    refine (HC.out _ hb2).mono ?_
    rintro e w2 ⟨rfl, hb3⟩
    have hb4 := bel_next hb2 hb3
    have Hv2 := Lib.hid (Hv1.out.later hb3)
    clear v0 v1 v2 v3 v4 Hv1 hb2 hb3
    obtain ⟨⟨v0, v1, v2, v3, v4⟩, -⟩ := Hv2.out
    go_wp2_with fail
    refine (HD.out _ hb4).mono ?_
    rintro e w3 ⟨rfl, hb5⟩
    have hb6 := bel_next hb4 hb5
    have Hv3 := Lib.hid (Hv2.out.later hb5)
    clear v0 v1 v2 v3 v4 Hv2 hb4 hb5
    obtain ⟨⟨v0, v1, v2, v3, v4⟩, -⟩ := Hv3.out
    go_wp2_with fail
    refine (HN.out _ hb6).mono ?_
    rintro e w4 ⟨rfl, hb7⟩
    have hb8 := bel_next hb6 hb7
    have Hv4 := Lib.hid (Hv3.out.later hb7)
    clear v0 v1 v2 v3 v4 Hv3 hb6 hb7
    obtain ⟨⟨v0, v1, v2, v3, v4⟩, -⟩ := Hv4.out
    go_wp2_with fail
    refine (HS.out _ hb8).mono ?_
    rintro e w5 ⟨rfl, hb9⟩
    go_wp2
    go_ret
    exact ⟨rfl, bel_next hb8 hb9⟩
theorem valueHolds_walk (W : World) (T : VT) (h : Lie W W.heap.size T) (htab : UTab W) (hst : STab W) :
    Calls Tryd.prog 6 #[T.agg] W fun e w' => e = .returned (.bool true) ∧ Below W.heap.size W w' := vholds_any W T W.heap.size h (Nat.le_refl _) htab hst
end Go.Proofs.YtnldiemggabdkaaDoor
