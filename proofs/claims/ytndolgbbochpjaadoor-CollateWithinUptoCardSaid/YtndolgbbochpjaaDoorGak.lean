import Derived.Test.YtndolgbbochpjaaDoorGai
import Derived.Test.YtndolgbbochpjaaDoorGag
import Derived.Test.YtndolgbbochpjaaDoorGaj
/-
  Layer 7, the reference: Less at any two values that may be.
-/
namespace Go.Proofs.YtndolgbbochpjaaDoor
open Go.RowKit
set_option linter.unusedVariables false

theorem cmpQ_neg (a b : Int) : decide (cmpQ a b < 0) = decide (a < b) := by unfold cmpQ; repeat' split <;> simp <;> omega
theorem vcmp_neg (a b : ByteArray) : decide (vcmp a b < 0) = vless a b := by
  unfold vcmp
  cases h : vless a b with
  | true => simp
  | false => rw [if_neg (by simp)]; split <;> simp
theorem vcmp_ne {a b : ByteArray} (h : a ≠ b) : vcmp a b ≠ 0 := fun e => h (vcmp_zero e)
set_option maxRecDepth 20000 in
set_option maxHeartbeats 4000000 in
theorem rless_step (f : VT → VT → Int) (hcf : Cmp f) (T U : VT) (B : Nat) (w : World) (hL : Lie w B T) (hL' : Lie w B U) (h1 : T.ok = true) (h2 : U.ok = true) (sT : Sml 1048576 T) (hB : B ≤ w.heap.size)
    (hC : ∀ x ∈ T.kids, ∀ y ∈ U.kids, ∀ W, Fr w W → Calls Tryd.prog 20 #[x.agg, y.agg] W fun e w' => e = .returned (.bool (decide (f x y < 0))) ∧ Fr W w')
    (hD : ∀ x ∈ T.kids, ∀ y ∈ U.kids, ∀ W, Fr w W → Calls Tryd.prog 20 #[y.agg, x.agg] W fun e w' => e = .returned (.bool (decide (0 < f x y))) ∧ Fr W w') :
    Calls Tryd.prog 20 #[T.agg, U.agg] w fun e w' => e = .returned (.bool (decide (runV f T U < 0))) ∧ Fr w w' := by
  have hT := Szd.sized (ok_szd hL h1)
  have hU := Szd.sized (ok_szd hL' h2)
  have Hcs := Lib.hid (run_cases f hT hU)
  have Hk1 := Lib.hid (fun W => kind_any T W hT.1)
  have Hk2 := Lib.hid (fun W => kind_any U W hU.1)
  obtain ⟨k, n, s, cA, cn, cc, kA, kn, kc, keys, kids⟩ := T
  obtain ⟨k', n', s', cA', cn', cc', kA', kn', kc', keys', kids'⟩ := U
  have hcn := ok_few hL h1
  have hss : s.size ≤ 1048576 := by cases sT; assumption
  have Hks := Lib.hid (fun (i : Nat) => (by
    cases sT with
    | mk a1 a2 a3 =>
      by_cases hi : i < keys.length
      · rw [List.getD_eq_getElem?_getD, List.getElem?_eq_getElem hi]; exact a2 _ (List.getElem_mem hi)
      · rw [List.getD_eq_getElem?_getD, List.getElem?_eq_none (by omega)]; exact Nat.zero_le _ : (keys.getD i ⟨#[]⟩).size ≤ 1048576))
  have hbo := ((Fr.refl w).alloc (.cells #[.int .i64 k, .int .i64 n, .string s, .slice cA cn cc, .slice kA kn kc] 25)).alloc (.cells #[.int .i64 k', .int .i64 n', .string s', .slice cA' cn' cc', .slice kA' kn' kc'] 25)
  have HA := Lib.hid ((VFive.new w (.int .i64 k) (.int .i64 n) (.string s) (.slice cA cn cc) (.slice kA kn kc) 25 w.heap.size rfl).alloc (.cells #[.int .i64 k', .int .i64 n', .string s', .slice cA' cn' cc', .slice kA' kn' kc'] 25))
  have HB := Lib.hid (VFive.new (w.alloc (.cells #[.int .i64 k, .int .i64 n, .string s, .slice cA cn cc, .slice kA kn kc] 25)) (.int .i64 k') (.int .i64 n') (.string s') (.slice cA' cn' cc') (.slice kA' kn' kc') 25 (w.heap.size + 1) (World.size_alloc _ _))
  have HLa := Lib.hid hL
  have HLb := Lib.hid hL'
  have Hkl := Lib.hid (fun (h6 : k = 6) (hkk : k = k') => (by
    cases hL with
    | mk a1 a2 _ _ =>
    cases hL' with
    | mk b1 b2 _ _ =>
    have c1 := keys_len a2
    have c2 := keys_len b2
    have c3 := kids_len a1
    have c4 := kids_len b1
    have d1 := hT.2.1 h6
    have d2 := hU.2.1 (show k' = 6 by omega)
    simp only [VT.keys, VT.kids] at d1 d2
    omega : kn = cn ∧ kn' = cn'))
  have Hat := Lib.hid (fun (i : Nat) x y (hk : k = k') (hx : kids[i]? = some x) (hy : kids'[i]? = some y) => (by
    have e1 := els_at hT (show (VT.mk k n s cA cn cc kA kn kc keys kids).kids[i]? = some x from hx)
    have e2 := els_at hU (show (VT.mk k' n' s' cA' cn' cc' kA' kn' kc' keys' kids').kids[i]? = some y from hy)
    rw [lex_step (f := cmpE f) e1 e2]
    congr 1
    unfold cmpE eleV
    simp only [VT.k, VT.keys]
    subst hk
    by_cases h6 : k = 6
    · subst h6; simp
    · simp [h6, vcmp_self, thenI_0] :
    lexL (cmpE f) ((VT.mk k n s cA cn cc kA kn kc keys kids).els.drop i) ((VT.mk k' n' s' cA' cn' cc' kA' kn' kc' keys' kids').els.drop i) = thenI (eleV k (keys.getD i ⟨#[]⟩) (keys'.getD i ⟨#[]⟩) (f x y)) (lexL (cmpE f) ((VT.mk k n s cA cn cc kA kn kc keys kids).els.drop (i + 1)) ((VT.mk k' n' s' cA' cn' cc' kA' kn' kc' keys' kids').els.drop (i + 1)))))
  have Hend := Lib.hid (fun (i : Nat) (h1 : i ≤ cn) (h2 : i ≤ cn') (h3 : i = cn ∨ i = cn') => (by
    cases hL with
    | mk a1 a2 _ _ =>
    cases hL' with
    | mk b1 b2 _ _ =>
    have c1 := kids_len a1
    have c2 := kids_len b1
    have d1 := els_len hT
    have d2 := els_len hU
    simp only [VT.kids] at d1 d2
    rw [lex_end (by omega) (by omega) (by omega), d1, d2, c1, c2] :
    lexL (cmpE f) ((VT.mk k n s cA cn cc kA kn kc keys kids).els.drop i) ((VT.mk k' n' s' cA' cn' cc' kA' kn' kc' keys' kids').els.drop i) = cmpQ cn cn'))
  have Hkid := Lib.hid (fun (i : Nat) (h1 : i < cn) (h2 : i < cn') => (by
    cases hL with
    | mk a1 a2 _ _ =>
    cases hL' with
    | mk b1 b2 _ _ =>
    have c1 := kids_len a1
    have c2 := kids_len b1
    exact ⟨_, _, List.getElem?_eq_getElem (by omega), List.getElem?_eq_getElem (by omega)⟩ : ∃ x y, kids[i]? = some x ∧ kids'[i]? = some y))
  have HC := Lib.hid (fun x y (i : Nat) (hx : kids[i]? = some x) (hy : kids'[i]? = some y) W (h : Fr w W) => hC x (List.mem_of_getElem? hx) y (List.mem_of_getElem? hy) W h)
  have HD := Lib.hid (fun x y (i : Nat) (hx : kids[i]? = some x) (hy : kids'[i]? = some y) W (h : Fr w W) => hD x (List.mem_of_getElem? hx) y (List.mem_of_getElem? hy) W h)
  simp only [VT.agg, VT.k, VT.n, VT.s] at Hk1 Hk2 Hcs ⊢
  generalize (VT.mk k n s cA cn cc kA kn kc keys kids).els = l1 at *
  generalize (VT.mk k' n' s' cA' cn' cc' kA' kn' kc' keys' kids').els = l2 at *
  generalize runV f (VT.mk k n s cA cn cc kA kn kc keys kids) (.mk k' n' s' cA' cn' cc' kA' kn' kc' keys' kids') = r at *
  generalize rankV (VT.mk k n s cA cn cc kA kn kc keys kids) = rT at *
  generalize rankV (VT.mk k' n' s' cA' cn' cc' kA' kn' kc' keys' kids') = rU at *
  obtain ⟨rb, hrb⟩ : ∃ rb, rb = decide (r < 0) := ⟨_, rfl⟩
  rw [← hrb]
  have HRB := Lib.hid hrb
  clear hrb hL hL' hT hU hC hD h1 h2 sT
  go_enter Tryd.func20, Tryd.ntmps20
  go_upto_region 1 with fail
  generalize ((w.alloc (.cells #[.int .i64 k, .int .i64 n, .string s, .slice cA cn cc, .slice kA kn kc] 25)).alloc (.cells #[.int .i64 k', .int .i64 n', .string s', .slice cA' cn' cc', .slice kA' kn' kc'] 25)) = w1 at *
  have t0 := fun W (h : Fr w1 W) => (HA.out.later h.1).1.1
  have t1 := fun W (h : Fr w1 W) => (HA.out.later h.1).1.2.1
  have t2 := fun W (h : Fr w1 W) => (HA.out.later h.1).1.2.2.1
  have t3 := fun W (h : Fr w1 W) => (HA.out.later h.1).1.2.2.2.1
  have t4 := fun W (h : Fr w1 W) => (HA.out.later h.1).1.2.2.2.2
  have p0 := fun W (h : Fr w1 W) => (HB.out.later h.1).1.1
  have p1 := fun W (h : Fr w1 W) => (HB.out.later h.1).1.2.1
  have p2 := fun W (h : Fr w1 W) => (HB.out.later h.1).1.2.2.1
  have p3 := fun W (h : Fr w1 W) => (HB.out.later h.1).1.2.2.2.1
  have p4 := fun W (h : Fr w1 W) => (HB.out.later h.1).1.2.2.2.2
  have Hr1 := Lib.hid (fun W (h : Fr w1 W) => Hk1.out W)
  have Hr2 := Lib.hid (fun W (h : Fr w1 W) => Hk2.out W)
  clear Hk1 Hk2
  go_cut [10] (fun s10 wx => s10 = .bool (rT != rU) ∧ Fr w1 wx)
  case first =>
    refine wp_region_held_drew (S := fun W => Fr w1 W) (by kernel_rfl) ((Fr.refl w1).drewN 1) (fun hHeld => ?_)
    refine rg_in 0 rfl (by kernel_rfl) (by kernel_rfl) (by kernel_rfl) (by rfl) (v := ?_) (fun _ _ _ h => h) hHeld (fun w hSw => ?_) ?_
    rotate_left
    · (try dsimp only at hSw); go_simp <;> (with_reducible rfl)
    (try simp only [Act.put, List.setIfInBounds_toArray, List.set_cons_zero, List.set_cons_succ])
    refine rg_in 2 rfl (by kernel_rfl) (by kernel_rfl) (by kernel_rfl) (by rfl) (v := ?_) (fun _ _ _ h => h) hHeld (fun w hSw => ?_) ?_
    rotate_left
    · (try dsimp only at hSw); go_simp <;> (with_reducible rfl)
    (try simp only [Act.put, List.setIfInBounds_toArray, List.set_cons_zero, List.set_cons_succ])
    refine rg_do 1 rfl (by kernel_rfl) (by rfl) (fun K hK => ?_)
    go_simp
    (go_at_call 42; (with_reducible refine (Hr1.out _ hHeld).mono ?_); (rintro e w101 ⟨rfl, hb1⟩))
    refine hK.out _ _ (hHeld.next hb1) (fun hHeld => ?_)
    clear hK K
    (try simp only [Act.put, List.setIfInBounds_toArray, List.set_cons_zero, List.set_cons_succ])
    refine rg_do 3 rfl (by kernel_rfl) (by rfl) (fun K hK => ?_)
    go_simp
    (go_at_call 42; (with_reducible refine (Hr2.out _ hHeld).mono ?_); (rintro e w103 ⟨rfl, hb3⟩))
    refine hK.out _ _ (hHeld.next hb3) (fun hHeld => ?_)
    clear hK K
    (try simp only [Act.put, List.setIfInBounds_toArray, List.set_cons_zero, List.set_cons_succ])
    refine rg_in 4 rfl (by kernel_rfl) (by kernel_rfl) (by kernel_rfl) (by rfl) (v := ?_) (fun _ _ _ h => h) hHeld (fun w hSw => ?_) ?_
    rotate_left
    · (try dsimp only at hSw); go_simp <;> (with_reducible rfl)
    (try simp only [Act.put, List.setIfInBounds_toArray, List.set_cons_zero, List.set_cons_succ])
    refine wpAnyH_done (by kernel_rfl) ?_ _
    go_wp2
    go_meet
    case rel => exact ⟨by first | rfl | simp, hHeld⟩
  case rest =>
    obtain ⟨rfl, hbc⟩ := hcut
    rename World => w2
    have hb2 := hbo.next hbc
    rcases Hcs.out with ⟨hne, he, hr0⟩ | ⟨heq, hkk, hcase⟩
    · have hbn : (rT != rU) = true := by simpa using hne
      have HE := Lib.hid (show rb = decide (rT < rU) by rw [HRB.out, he, cmpQ_neg])
      clear he hr0 Hcs HRB hne
      go_upto_region 2 with fail
      refine wp_region_held_drew (S := fun W => Fr w1 W) (by kernel_rfl) (hbc.drewN 1) (fun hHeld => ?_)
      refine rg_in 0 rfl (by kernel_rfl) (by kernel_rfl) (by kernel_rfl) (by rfl) (v := ?_) (fun _ _ _ h => h) hHeld (fun w hSw => ?_) ?_
      rotate_left
      · (try dsimp only at hSw); go_simp <;> (with_reducible rfl)
      (try simp only [Act.put, List.setIfInBounds_toArray, List.set_cons_zero, List.set_cons_succ])
      refine rg_in 2 rfl (by kernel_rfl) (by kernel_rfl) (by kernel_rfl) (by rfl) (v := ?_) (fun _ _ _ h => h) hHeld (fun w hSw => ?_) ?_
      rotate_left
      · (try dsimp only at hSw); go_simp <;> (with_reducible rfl)
      (try simp only [Act.put, List.setIfInBounds_toArray, List.set_cons_zero, List.set_cons_succ])
      refine rg_do 1 rfl (by kernel_rfl) (by rfl) (fun K hK => ?_)
      go_simp
      (go_at_call 42; (with_reducible refine (Hr1.out _ hHeld).mono ?_); (rintro e w101 ⟨rfl, hb1⟩))
      refine hK.out _ _ (hHeld.next hb1) (fun hHeld => ?_)
      clear hK K
      (try simp only [Act.put, List.setIfInBounds_toArray, List.set_cons_zero, List.set_cons_succ])
      refine rg_do 3 rfl (by kernel_rfl) (by rfl) (fun K hK => ?_)
      go_simp
      (go_at_call 42; (with_reducible refine (Hr2.out _ hHeld).mono ?_); (rintro e w103 ⟨rfl, hb3⟩))
      refine hK.out _ _ (hHeld.next hb3) (fun hHeld => ?_)
      clear hK K
      (try simp only [Act.put, List.setIfInBounds_toArray, List.set_cons_zero, List.set_cons_succ])
      refine rg_in 4 rfl (by kernel_rfl) (by kernel_rfl) (by kernel_rfl) (by rfl) (v := ?_) (fun _ _ _ h => h) hHeld (fun w hSw => ?_) ?_
      rotate_left
      · (try dsimp only at hSw); go_simp <;> (with_reducible rfl)
      (try simp only [Act.put, List.setIfInBounds_toArray, List.set_cons_zero, List.set_cons_succ])
      refine rg_in 5 rfl (by kernel_rfl) (by kernel_rfl) (by kernel_rfl) (by rfl) (v := ?_) (fun _ _ _ h => h) hHeld (fun w hSw => ?_) ?_
      rotate_left
      · (try dsimp only at hSw); go_simp <;> (with_reducible rfl)
      (try simp only [Act.put, List.setIfInBounds_toArray, List.set_cons_zero, List.set_cons_succ])
      refine wpAnyH_done (by kernel_rfl) ?_ _
      go_wp2
      go_ret
      exact ⟨by rw [HE.out]; rfl, hbo.next hHeld⟩
    · subst heq
      subst hkk
      have hbn : (rT != rT) = false := by simp
      have Hcase := Lib.hid hcase
      clear hcase Hcs
      have HA2 := Lib.hid (HA.out.later hbc.1)
      have HB2 := Lib.hid (HB.out.later hbc.1)
      clear t0 t1 t2 t3 t4 p0 p1 p2 p3 p4
      obtain ⟨⟨t0, t1, t2, t3, t4⟩, -⟩ := HA2.out
      obtain ⟨⟨p0, p1, p2, p3, p4⟩, -⟩ := HB2.out
      rcases Hcase.out with ⟨rfl, hr3⟩ | ⟨rfl, hr3⟩ | ⟨h3, h4, hr3⟩
      · have HE := Lib.hid (show rb = decide (n < n') by rw [HRB.out, hr3, cmpQ_neg])
        clear hr3 HRB Hcase
        go_wp2
        go_ret
        exact ⟨by rw [HE.out]; rfl, hb2⟩
      · have HE := Lib.hid (show rb = vless s s' by rw [HRB.out, hr3, vcmp_neg])
        have hc := ahead_any s s' w2 hss
        clear hr3 HRB Hcase
        go_wp2_with fail
        refine hc.mono ?_
        rintro e w3 ⟨rfl, hb3⟩
        go_wp2
        go_ret
        exact ⟨by rw [HE.out]; rfl, hb2.next hb3⟩
      · have HR3 := Lib.hid (HRB.out.trans (by rw [hr3]) : rb = decide (lexL (cmpE f) l1 l2 < 0))
        clear hr3 HRB Hcase
        go_wp2
        go_loopw [5] (fun i wr => ∃ j : Nat, j ≤ cn ∧ j ≤ cn' ∧ i = .int .i64 j ∧ Hid (lexL (cmpE f) l1 l2 = lexL (cmpE f) (l1.drop j) (l2.drop j)) ∧ Fr w2 wr) (fun i _ => cn - (intOf i).toNat)
        case atStart => exact ⟨0, Nat.zero_le _, Nat.zero_le _, rfl, Lib.hid rfl, Fr.refl _⟩
        case round =>
          obtain ⟨j, hj1, hj2, rfl, HJ, hbr⟩ := hrel
          clear t0 t1 t2 t3 t4 p0 p1 p2 p3 p4
          have HAr := Lib.hid (HA2.out.later hbr.1)
          have HBr := Lib.hid (HB2.out.later hbr.1)
          have hbw := hb2.next hbr
          have hend : (j = cn ∨ j = cn') → Hid (rb = decide ((cn : Int) < (cn' : Int))) := fun h => Lib.hid (by rw [HR3.out, HJ.out, Hend.out j hj1 hj2 h, cmpQ_neg])
          by_cases hlt : j < cn
          · by_cases hlt2 : j < cn'
            · clear hend
              have hlt' : (j : Int) < (cn : Int) := by omega
              have hlt2' : (j : Int) < (cn' : Int) := by omega
              have hj0 : (0 : Int) ≤ (j : Int) := by omega
              obtain ⟨x, y, hx, hy⟩ := Hkid.out j hlt hlt2
              obtain ⟨rest, hrest⟩ : ∃ rest, rest = lexL (cmpE f) (l1.drop (j + 1)) (l2.drop (j + 1)) := ⟨_, rfl⟩
              have hst := HJ.out.trans (Hat.out j x y trivial hx hy)
              rw [← hrest] at hst
              have Hrest := Lib.hid hrest
              have hcx := HC.out x y j hx hy
              have hdx := HD.out x y j hx hy
              have hsh1 : Shows w B 5 cA cn (kids.flatMap VT.cells) ∧ Shows w B 1 kA kn (keys.map Value.string) := by
                cases HLa.out with
                | mk a1 a2 _ _ => exact ⟨a1, a2⟩
              have hsh2 : Shows w B 5 cA' cn' (kids'.flatMap VT.cells) ∧ Shows w B 1 kA' kn' (keys'.map Value.string) := by
                cases HLb.out with
                | mk a1 a2 _ _ => exact ⟨a1, a2⟩
              obtain ⟨b, off, hA1, hx5⟩ := kid_cells hsh1.1 hbw.1 hB hx
              obtain ⟨b', off', hA2, hy5⟩ := kid_cells hsh2.1 hbw.1 hB hy
              have HK6 := Lib.hid (fun h6 : k = 6 => (⟨key_cells hsh1.2 hbw.1 hB (show j < kn by have := (Hkl.out h6 trivial).1; omega), key_cells hsh2.2 hbw.1 hB (show j < kn' by have := (Hkl.out h6 trivial).2; omega)⟩ : (∃ b off, kA = some ⟨b, off, none⟩ ∧ ∀ W, Fr wr W → W.cell? ⟨b, off + j, none⟩ = some (.string (keys.getD j ⟨#[]⟩))) ∧ (∃ b off, kA' = some ⟨b, off, none⟩ ∧ ∀ W, Fr wr W → W.cell? ⟨b, off + j, none⟩ = some (.string (keys'.getD j ⟨#[]⟩)))))
              have hkb := Hks.out j
              have Hst := Lib.hid hst
              have Hcx := Lib.hid (fun W (h : Fr wr W) => hcx W (hbw.next h))
              have Hdx := Lib.hid (fun W (h : Fr wr W) => hdx W (hbw.next h))
              have hkl6 := Lib.hid (fun h6 : k = 6 => Hkl.out h6 trivial)
              clear hst hcx hdx hsh1 hsh2 hx hy HJ hrest
              subst hA1
              subst hA2
              generalize f x y = v at *
              generalize keys.getD j ⟨#[]⟩ = ka at *
              generalize keys'.getD j ⟨#[]⟩ = kb at *
              obtain ⟨kx, nx, sx, cAx, cnx, ccx, kAx, knx, kcx, keysx, kidsx⟩ := x
              obtain ⟨ky, ny, sy, cAy, cny, ccy, kAy, kny, kcy, keysy, kidsy⟩ := y
              simp only [VT.agg] at Hcx Hdx
              have x0 : ∀ W, Fr wr W → W.cell? ⟨b, off + j * 5, none⟩ = some (.int .i64 kx) := fun W h => (hx5 W h).1
              have x1 : ∀ W, Fr wr W → W.cell? ⟨b, off + j * 5 + 1, none⟩ = some (.int .i64 nx) := fun W h => (hx5 W h).2.1
              have x2 : ∀ W, Fr wr W → W.cell? ⟨b, off + j * 5 + 2, none⟩ = some (.string sx) := fun W h => (hx5 W h).2.2.1
              have x3 : ∀ W, Fr wr W → W.cell? ⟨b, off + j * 5 + 3, none⟩ = some (.slice cAx cnx ccx) := fun W h => (hx5 W h).2.2.2.1
              have x4 : ∀ W, Fr wr W → W.cell? ⟨b, off + j * 5 + 4, none⟩ = some (.slice kAx knx kcx) := fun W h => (hx5 W h).2.2.2.2
              have y0 : ∀ W, Fr wr W → W.cell? ⟨b', off' + j * 5, none⟩ = some (.int .i64 ky) := fun W h => (hy5 W h).1
              have y1 : ∀ W, Fr wr W → W.cell? ⟨b', off' + j * 5 + 1, none⟩ = some (.int .i64 ny) := fun W h => (hy5 W h).2.1
              have y2 : ∀ W, Fr wr W → W.cell? ⟨b', off' + j * 5 + 2, none⟩ = some (.string sy) := fun W h => (hy5 W h).2.2.1
              have y3 : ∀ W, Fr wr W → W.cell? ⟨b', off' + j * 5 + 3, none⟩ = some (.slice cAy cny ccy) := fun W h => (hy5 W h).2.2.2.1
              have y4 : ∀ W, Fr wr W → W.cell? ⟨b', off' + j * 5 + 4, none⟩ = some (.slice kAy kny kcy) := fun W h => (hy5 W h).2.2.2.2
              clear hx5 hy5
              by_cases hk6 : k = 6 ∧ ka ≠ kb
              · obtain ⟨rfl, hne⟩ := hk6
                obtain ⟨⟨b2, off2, rfl, hk2⟩, b3, off3, rfl, hk3⟩ := HK6.out rfl
                have hkn1 : (j : Int) < (kn : Int) := by have := (hkl6.out rfl).1; omega
                have hkn2 : (j : Int) < (kn' : Int) := by have := (hkl6.out rfl).2; omega
                have HE := Lib.hid (show rb = vless ka kb by
                  rw [HR3.out, Hst.out]
                  unfold eleV
                  rw [if_pos rfl]
                  have hz := vcmp_ne hne
                  rw [show thenI (vcmp ka kb) v = vcmp ka kb from if_neg hz, show thenI (vcmp ka kb) rest = vcmp ka kb from if_neg hz, vcmp_neg])
                have Hah := Lib.hid (fun W (h : Fr wr W) => ahead_any ka kb W hkb)
                have hsn : (ka.toList != kb.toList) = true := by
                  have := str_ne hne
                  rw [bne, this]; rfl
                clear Hst HR3 HK6 hkl6 Hcx Hdx Hrest
                have t0 := fun W (h : Fr wr W) => (HAr.out.later h.1).1.1
                have t1 := fun W (h : Fr wr W) => (HAr.out.later h.1).1.2.1
                have t2 := fun W (h : Fr wr W) => (HAr.out.later h.1).1.2.2.1
                have t3 := fun W (h : Fr wr W) => (HAr.out.later h.1).1.2.2.2.1
                have t4 := fun W (h : Fr wr W) => (HAr.out.later h.1).1.2.2.2.2
                have p0 := fun W (h : Fr wr W) => (HBr.out.later h.1).1.1
                have p1 := fun W (h : Fr wr W) => (HBr.out.later h.1).1.2.1
                have p2 := fun W (h : Fr wr W) => (HBr.out.later h.1).1.2.2.1
                have p3 := fun W (h : Fr wr W) => (HBr.out.later h.1).1.2.2.2.1
                have p4 := fun W (h : Fr wr W) => (HBr.out.later h.1).1.2.2.2.2
                have t3w := t3 wr (Fr.refl _)
                have p3w := p3 wr (Fr.refl _)
                go_upto_region 10 with fail
                go_cut [61] (fun s wx => s = .bool true ∧ Fr wr wx)
                case first =>
                  have t0' := t0 wr (Fr.refl _)
                  have t4' := t4 wr (Fr.refl _)
                  have p4' := p4 wr (Fr.refl _)
                  have hk2' := hk2 wr (Fr.refl _)
                  have hk3' := hk3 wr (Fr.refl _)
                  go_quiet (fail)
                  go_wp2
                  go_meet
                  case rel => exact ⟨by first | rfl | (simp; exact fun e => hne (bytes_inj e)), (Fr.refl _).drewN _⟩
                case rest =>
                  obtain ⟨rfl, hcc⟩ := hcut
                  go_upto_region 11 with fail
                  refine wp_region_held_drew (S := fun W => Fr wr W) (by kernel_rfl) (hcc.drewN 1) (fun hHeld => ?_)
                  refine rg_in 0 rfl (by kernel_rfl) (by kernel_rfl) (by kernel_rfl) (by rfl) (v := ?_) (fun _ _ _ h => h) hHeld (fun w hSw => ?_) ?_
                  rotate_left
                  · (try dsimp only at hSw); go_simp <;> (with_reducible rfl)
                  (try simp only [Act.put, List.setIfInBounds_toArray, List.set_cons_zero, List.set_cons_succ])
                  refine rg_in 1 rfl (by kernel_rfl) (by kernel_rfl) (by kernel_rfl) (by rfl) (v := ?_) (fun _ _ _ h => h) hHeld (fun w hSw => ?_) ?_
                  rotate_left
                  · (try dsimp only at hSw); go_simp <;> (with_reducible rfl)
                  (try simp only [Act.put, List.setIfInBounds_toArray, List.set_cons_zero, List.set_cons_succ])
                  refine rg_in 2 rfl (by kernel_rfl) (by kernel_rfl) (by kernel_rfl) (by rfl) (v := ?_) (fun _ _ _ h => h) hHeld (fun w hSw => ?_) ?_
                  rotate_left
                  · (try dsimp only at hSw); go_simp <;> (with_reducible rfl)
                  (try simp only [Act.put, List.setIfInBounds_toArray, List.set_cons_zero, List.set_cons_succ])
                  refine rg_in 3 rfl (by kernel_rfl) (by kernel_rfl) (by kernel_rfl) (by rfl) (v := ?_) (fun _ _ _ h => h) hHeld (fun w hSw => ?_) ?_
                  rotate_left
                  · (try dsimp only at hSw); go_simp <;> (with_reducible rfl)
                  (try simp only [Act.put, List.setIfInBounds_toArray, List.set_cons_zero, List.set_cons_succ])
                  refine rg_in 4 rfl (by kernel_rfl) (by kernel_rfl) (by kernel_rfl) (by rfl) (v := ?_) (fun _ _ _ h => h) hHeld (fun w hSw => ?_) ?_
                  rotate_left
                  · (try dsimp only at hSw); go_simp <;> (with_reducible rfl)
                  (try simp only [Act.put, List.setIfInBounds_toArray, List.set_cons_zero, List.set_cons_succ])
                  refine rg_in 5 rfl (by kernel_rfl) (by kernel_rfl) (by kernel_rfl) (by rfl) (v := ?_) (fun _ _ _ h => h) hHeld (fun w hSw => ?_) ?_
                  rotate_left
                  · (try dsimp only at hSw); go_simp <;> (with_reducible rfl)
                  (try simp only [Act.put, List.setIfInBounds_toArray, List.set_cons_zero, List.set_cons_succ])
                  refine rg_in 6 rfl (by kernel_rfl) (by kernel_rfl) (by kernel_rfl) (by rfl) (v := ?_) (fun _ _ _ h => h) hHeld (fun w hSw => ?_) ?_
                  rotate_left
                  · (try dsimp only at hSw); go_simp <;> (with_reducible rfl)
                  (try simp only [Act.put, List.setIfInBounds_toArray, List.set_cons_zero, List.set_cons_succ])
                  refine rg_in 7 rfl (by kernel_rfl) (by kernel_rfl) (by kernel_rfl) (by rfl) (v := ?_) (fun _ _ _ h => h) hHeld (fun w hSw => ?_) ?_
                  rotate_left
                  · (try dsimp only at hSw); go_simp <;> (with_reducible rfl)
                  (try simp only [Act.put, List.setIfInBounds_toArray, List.set_cons_zero, List.set_cons_succ])
                  refine rg_in 8 rfl (by kernel_rfl) (by kernel_rfl) (by kernel_rfl) (by rfl) (v := ?_) (fun _ _ _ h => h) hHeld (fun w hSw => ?_) ?_
                  rotate_left
                  · (try dsimp only at hSw); go_simp <;> (with_reducible rfl)
                  (try simp only [Act.put, List.setIfInBounds_toArray, List.set_cons_zero, List.set_cons_succ])
                  refine rg_in 9 rfl (by kernel_rfl) (by kernel_rfl) (by kernel_rfl) (by rfl) (v := ?_) (fun _ _ _ h => h) hHeld (fun w hSw => ?_) ?_
                  rotate_left
                  · (try dsimp only at hSw); go_simp <;> (with_reducible rfl)
                  (try simp only [Act.put, List.setIfInBounds_toArray, List.set_cons_zero, List.set_cons_succ])
                  refine rg_do 10 rfl (by kernel_rfl) (by rfl) (fun K hK => ?_)
                  go_simp
                  (go_at_call 43; (with_reducible refine (Hah.out _ hHeld).mono ?_); (rintro e w110 ⟨rfl, hb10⟩))
                  refine hK.out _ _ (hHeld.next hb10) (fun hHeld => ?_)
                  clear hK K
                  (try simp only [Act.put, List.setIfInBounds_toArray, List.set_cons_zero, List.set_cons_succ])
                  refine rg_in 11 rfl (by kernel_rfl) (by kernel_rfl) (by kernel_rfl) (by rfl) (v := ?_) (fun _ _ _ h => h) hHeld (fun w hSw => ?_) ?_
                  rotate_left
                  · (try dsimp only at hSw); go_simp <;> (with_reducible rfl)
                  (try simp only [Act.put, List.setIfInBounds_toArray, List.set_cons_zero, List.set_cons_succ])
                  refine wpAnyH_done (by kernel_rfl) ?_ _
                  go_wp2
                  go_ret
                  exact ⟨by rw [HE.out]; rfl, hbw.next hHeld⟩
              · have hev : Hid (lexL (cmpE f) l1 l2 = thenI v rest) := Lib.hid (by
                  rw [Hst.out]
                  congr 1
                  unfold eleV
                  by_cases h6 : k = 6
                  · rw [if_pos h6]
                    have : ka = kb := Classical.byContradiction fun h => hk6 ⟨h6, h⟩
                    rw [this, vcmp_self, thenI_0]
                  · rw [if_neg h6])
                have HNJ := Lib.hid (fun hz : v = 0 => (by rw [hev.out, hz, thenI_0]; exact Hrest.out : lexL (cmpE f) l1 l2 = lexL (cmpE f) (l1.drop (j + 1)) (l2.drop (j + 1))))
                clear Hst Hrest
                have t0 := fun W (h : Fr wr W) => (HAr.out.later h.1).1.1
                have t1 := fun W (h : Fr wr W) => (HAr.out.later h.1).1.2.1
                have t2 := fun W (h : Fr wr W) => (HAr.out.later h.1).1.2.2.1
                have t3 := fun W (h : Fr wr W) => (HAr.out.later h.1).1.2.2.2.1
                have t4 := fun W (h : Fr wr W) => (HAr.out.later h.1).1.2.2.2.2
                have p0 := fun W (h : Fr wr W) => (HBr.out.later h.1).1.1
                have p1 := fun W (h : Fr wr W) => (HBr.out.later h.1).1.2.1
                have p2 := fun W (h : Fr wr W) => (HBr.out.later h.1).1.2.2.1
                have p3 := fun W (h : Fr wr W) => (HBr.out.later h.1).1.2.2.2.1
                have p4 := fun W (h : Fr wr W) => (HBr.out.later h.1).1.2.2.2.2
                have t3w := t3 wr (Fr.refl _)
                have p3w := p3 wr (Fr.refl _)
                go_upto_region 10 with fail
                go_cut [61] (fun s wx => s = .bool false ∧ Fr wr wx)
                case first =>
                  have t0' := t0 wr (Fr.refl _)
                  have t4' := t4 wr (Fr.refl _)
                  have p4' := p4 wr (Fr.refl _)
                  by_cases h6 : k = 6
                  · subst h6
                    have hkk : ka = kb := Classical.byContradiction fun h => hk6 ⟨rfl, h⟩
                    subst hkk
                    obtain ⟨⟨b2, off2, rfl, hk2⟩, b3, off3, rfl, hk3⟩ := HK6.out rfl
                    have hkn1 : (j : Int) < (kn : Int) := by have := (hkl6.out rfl).1; omega
                    have hkn2 : (j : Int) < (kn' : Int) := by have := (hkl6.out rfl).2; omega
                    have hsn : (ka.toList != ka.toList) = false := by simp
                    have hk2' := hk2 wr (Fr.refl _)
                    have hk3' := hk3 wr (Fr.refl _)
                    clear hk6
                    go_quiet (fail)
                    go_wp2
                    go_meet
                    case rel => exact ⟨by first | rfl | simp, (Fr.refl _).drewN _⟩
                  · clear hk6
                    go_quiet (fail)
                    go_wp2
                    go_meet
                    case rel => exact ⟨by first | rfl | simp, (Fr.refl _).drewN _⟩
                case rest =>
                  obtain ⟨rfl, hcc⟩ := hcut
                  clear hk6 HK6 hkl6
                  go_upto_region 12 with fail
                  refine wp_region_held_drew (S := fun W => Fr wr W) (by kernel_rfl) (hcc.drewN 1) (fun hHeld => ?_)
                  refine rg_in 0 rfl (by kernel_rfl) (by kernel_rfl) (by kernel_rfl) (by rfl) (v := ?_) (fun _ _ _ h => h) hHeld (fun w hSw => ?_) ?_
                  rotate_left
                  · (try dsimp only at hSw); go_simp <;> (with_reducible rfl)
                  (try simp only [Act.put, List.setIfInBounds_toArray, List.set_cons_zero, List.set_cons_succ])
                  refine rg_in 1 rfl (by kernel_rfl) (by kernel_rfl) (by kernel_rfl) (by rfl) (v := ?_) (fun _ _ _ h => h) hHeld (fun w hSw => ?_) ?_
                  rotate_left
                  · (try dsimp only at hSw); go_simp <;> (with_reducible rfl)
                  (try simp only [Act.put, List.setIfInBounds_toArray, List.set_cons_zero, List.set_cons_succ])
                  refine rg_in 2 rfl (by kernel_rfl) (by kernel_rfl) (by kernel_rfl) (by rfl) (v := ?_) (fun _ _ _ h => h) hHeld (fun w hSw => ?_) ?_
                  rotate_left
                  · (try dsimp only at hSw); go_simp <;> (with_reducible rfl)
                  (try simp only [Act.put, List.setIfInBounds_toArray, List.set_cons_zero, List.set_cons_succ])
                  refine rg_in 3 rfl (by kernel_rfl) (by kernel_rfl) (by kernel_rfl) (by rfl) (v := ?_) (fun _ _ _ h => h) hHeld (fun w hSw => ?_) ?_
                  rotate_left
                  · (try dsimp only at hSw); go_simp <;> (with_reducible rfl)
                  (try simp only [Act.put, List.setIfInBounds_toArray, List.set_cons_zero, List.set_cons_succ])
                  refine rg_in 4 rfl (by kernel_rfl) (by kernel_rfl) (by kernel_rfl) (by rfl) (v := ?_) (fun _ _ _ h => h) hHeld (fun w hSw => ?_) ?_
                  rotate_left
                  · (try dsimp only at hSw); go_simp <;> (with_reducible rfl)
                  (try simp only [Act.put, List.setIfInBounds_toArray, List.set_cons_zero, List.set_cons_succ])
                  refine rg_in 5 rfl (by kernel_rfl) (by kernel_rfl) (by kernel_rfl) (by rfl) (v := ?_) (fun _ _ _ h => h) hHeld (fun w hSw => ?_) ?_
                  rotate_left
                  · (try dsimp only at hSw); go_simp <;> (with_reducible rfl)
                  (try simp only [Act.put, List.setIfInBounds_toArray, List.set_cons_zero, List.set_cons_succ])
                  refine rg_in 6 rfl (by kernel_rfl) (by kernel_rfl) (by kernel_rfl) (by rfl) (v := ?_) (fun _ _ _ h => h) hHeld (fun w hSw => ?_) ?_
                  rotate_left
                  · (try dsimp only at hSw); go_simp <;> (with_reducible rfl)
                  (try simp only [Act.put, List.setIfInBounds_toArray, List.set_cons_zero, List.set_cons_succ])
                  refine rg_in 7 rfl (by kernel_rfl) (by kernel_rfl) (by kernel_rfl) (by rfl) (v := ?_) (fun _ _ _ h => h) hHeld (fun w hSw => ?_) ?_
                  rotate_left
                  · (try dsimp only at hSw); go_simp <;> (with_reducible rfl)
                  (try simp only [Act.put, List.setIfInBounds_toArray, List.set_cons_zero, List.set_cons_succ])
                  refine rg_in 8 rfl (by kernel_rfl) (by kernel_rfl) (by kernel_rfl) (by rfl) (v := ?_) (fun _ _ _ h => h) hHeld (fun w hSw => ?_) ?_
                  rotate_left
                  · (try dsimp only at hSw); go_simp <;> (with_reducible rfl)
                  (try simp only [Act.put, List.setIfInBounds_toArray, List.set_cons_zero, List.set_cons_succ])
                  refine rg_in 9 rfl (by kernel_rfl) (by kernel_rfl) (by kernel_rfl) (by rfl) (v := ?_) (fun _ _ _ h => h) hHeld (fun w hSw => ?_) ?_
                  rotate_left
                  · (try dsimp only at hSw); go_simp <;> (with_reducible rfl)
                  (try simp only [Act.put, List.setIfInBounds_toArray, List.set_cons_zero, List.set_cons_succ])
                  refine rg_do 10 rfl (by kernel_rfl) (by rfl) (fun K hK => ?_)
                  go_simp
                  (go_at_call 20; (with_reducible refine (Hcx.out _ hHeld).mono ?_); (rintro e w110 ⟨rfl, hb10⟩))
                  refine hK.out _ _ (hHeld.next hb10) (fun hHeld => ?_)
                  clear hK K
                  (try simp only [Act.put, List.setIfInBounds_toArray, List.set_cons_zero, List.set_cons_succ])
                  refine wpAnyH_done (by kernel_rfl) ?_ _
                  by_cases hv : v < 0
                  · have HE := Lib.hid (show rb = true by
                      have hz : v ≠ 0 := by omega
                      rw [HR3.out, hev.out, show thenI v rest = v from if_neg hz]; simpa using hv)
                    have hvd : decide (v < 0) = true := by simpa using hv
                    clear hev HNJ HR3
                    go_wp2
                    go_ret
                    exact ⟨by rw [HE.out]; rfl, hbw.next hHeld⟩
                  · have hvd : decide (v < 0) = false := by simpa using hv
                    go_upto_region 14 with fail
                    refine wp_region_held_drew (S := fun W => Fr wr W) (by kernel_rfl) (hHeld.drewN 1) (fun hHeld => ?_)
                    refine rg_in 0 rfl (by kernel_rfl) (by kernel_rfl) (by kernel_rfl) (by rfl) (v := ?_) (fun _ _ _ h => h) hHeld (fun w hSw => ?_) ?_
                    rotate_left
                    · (try dsimp only at hSw); go_simp <;> (with_reducible rfl)
                    (try simp only [Act.put, List.setIfInBounds_toArray, List.set_cons_zero, List.set_cons_succ])
                    refine rg_in 1 rfl (by kernel_rfl) (by kernel_rfl) (by kernel_rfl) (by rfl) (v := ?_) (fun _ _ _ h => h) hHeld (fun w hSw => ?_) ?_
                    rotate_left
                    · (try dsimp only at hSw); go_simp <;> (with_reducible rfl)
                    (try simp only [Act.put, List.setIfInBounds_toArray, List.set_cons_zero, List.set_cons_succ])
                    refine rg_in 2 rfl (by kernel_rfl) (by kernel_rfl) (by kernel_rfl) (by rfl) (v := ?_) (fun _ _ _ h => h) hHeld (fun w hSw => ?_) ?_
                    rotate_left
                    · (try dsimp only at hSw); go_simp <;> (with_reducible rfl)
                    (try simp only [Act.put, List.setIfInBounds_toArray, List.set_cons_zero, List.set_cons_succ])
                    refine rg_in 3 rfl (by kernel_rfl) (by kernel_rfl) (by kernel_rfl) (by rfl) (v := ?_) (fun _ _ _ h => h) hHeld (fun w hSw => ?_) ?_
                    rotate_left
                    · (try dsimp only at hSw); go_simp <;> (with_reducible rfl)
                    (try simp only [Act.put, List.setIfInBounds_toArray, List.set_cons_zero, List.set_cons_succ])
                    refine rg_in 4 rfl (by kernel_rfl) (by kernel_rfl) (by kernel_rfl) (by rfl) (v := ?_) (fun _ _ _ h => h) hHeld (fun w hSw => ?_) ?_
                    rotate_left
                    · (try dsimp only at hSw); go_simp <;> (with_reducible rfl)
                    (try simp only [Act.put, List.setIfInBounds_toArray, List.set_cons_zero, List.set_cons_succ])
                    refine rg_in 5 rfl (by kernel_rfl) (by kernel_rfl) (by kernel_rfl) (by rfl) (v := ?_) (fun _ _ _ h => h) hHeld (fun w hSw => ?_) ?_
                    rotate_left
                    · (try dsimp only at hSw); go_simp <;> (with_reducible rfl)
                    (try simp only [Act.put, List.setIfInBounds_toArray, List.set_cons_zero, List.set_cons_succ])
                    refine rg_in 6 rfl (by kernel_rfl) (by kernel_rfl) (by kernel_rfl) (by rfl) (v := ?_) (fun _ _ _ h => h) hHeld (fun w hSw => ?_) ?_
                    rotate_left
                    · (try dsimp only at hSw); go_simp <;> (with_reducible rfl)
                    (try simp only [Act.put, List.setIfInBounds_toArray, List.set_cons_zero, List.set_cons_succ])
                    refine rg_in 7 rfl (by kernel_rfl) (by kernel_rfl) (by kernel_rfl) (by rfl) (v := ?_) (fun _ _ _ h => h) hHeld (fun w hSw => ?_) ?_
                    rotate_left
                    · (try dsimp only at hSw); go_simp <;> (with_reducible rfl)
                    (try simp only [Act.put, List.setIfInBounds_toArray, List.set_cons_zero, List.set_cons_succ])
                    refine rg_in 8 rfl (by kernel_rfl) (by kernel_rfl) (by kernel_rfl) (by rfl) (v := ?_) (fun _ _ _ h => h) hHeld (fun w hSw => ?_) ?_
                    rotate_left
                    · (try dsimp only at hSw); go_simp <;> (with_reducible rfl)
                    (try simp only [Act.put, List.setIfInBounds_toArray, List.set_cons_zero, List.set_cons_succ])
                    refine rg_in 9 rfl (by kernel_rfl) (by kernel_rfl) (by kernel_rfl) (by rfl) (v := ?_) (fun _ _ _ h => h) hHeld (fun w hSw => ?_) ?_
                    rotate_left
                    · (try dsimp only at hSw); go_simp <;> (with_reducible rfl)
                    (try simp only [Act.put, List.setIfInBounds_toArray, List.set_cons_zero, List.set_cons_succ])
                    refine rg_do 10 rfl (by kernel_rfl) (by rfl) (fun K hK => ?_)
                    go_simp
                    (go_at_call 20; (with_reducible refine (Hdx.out _ hHeld).mono ?_); (rintro e w110 ⟨rfl, hb10⟩))
                    refine hK.out _ _ (hHeld.next hb10) (fun hHeld => ?_)
                    clear hK K
                    (try simp only [Act.put, List.setIfInBounds_toArray, List.set_cons_zero, List.set_cons_succ])
                    refine wpAnyH_done (by kernel_rfl) ?_ _
                    by_cases hv2 : 0 < v
                    · have HE := Lib.hid (show rb = false by
                        have hz : v ≠ 0 := by omega
                        rw [HR3.out, hev.out, show thenI v rest = v from if_neg hz]; simpa using hv)
                      have hvd2 : decide (0 < v) = true := by simpa using hv2
                      clear hev HNJ HR3
                      go_wp2
                      go_ret
                      exact ⟨by rw [HE.out]; rfl, hbw.next hHeld⟩
                    · have hvd2 : decide (0 < v) = false := by simpa using hv2
                      have Hn := Lib.hid (HNJ.out (by omega))
                      clear hev HNJ
                      go_wp2
                      go_roundw
                      case rel => exact ⟨j + 1, by omega, by omega, by go_num, Hn, hbr.next hHeld⟩
                      case measure => simp [intOf]; omega
            · have HE := hend (.inr (by omega))
              have hlt' : (j : Int) < (cn : Int) := by omega
              have hlt2' : ¬ (j : Int) < (cn' : Int) := by omega
              clear HJ hend HR3
              obtain ⟨⟨t0, t1, t2, t3, t4⟩, -⟩ := HAr.out
              obtain ⟨⟨p0, p1, p2, p3, p4⟩, -⟩ := HBr.out
              go_wp2
              go_ret
              exact ⟨by rw [HE.out]; first | rfl | simp, hbw⟩
          · have HE := hend (.inl (by omega))
            have hlt' : ¬ (j : Int) < (cn : Int) := by omega
            clear HJ hend HR3
            obtain ⟨⟨t0, t1, t2, t3, t4⟩, -⟩ := HAr.out
            obtain ⟨⟨p0, p1, p2, p3, p4⟩, -⟩ := HBr.out
            go_wp2
            go_ret
            exact ⟨by rw [HE.out]; first | rfl | simp, hbw⟩
end Go.Proofs.YtndolgbbochpjaaDoor
