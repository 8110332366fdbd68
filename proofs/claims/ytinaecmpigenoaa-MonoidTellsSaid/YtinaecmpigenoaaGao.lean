import Derived.Test.YtinaecmpigenoaaGan
/-
  Layer 4, the reference: one, Same.
-/
namespace Go.Proofs.Ytinaecmpigenoaa
open Go.RowKit
set_option linter.unusedVariables false

theorem e_ne {k n k' n' : Int} {s s' : ByteArray} {keys keys' : List ByteArray} {kids kids' : List VT} {cA kA cA' kA' : Option Addr} {cn cc kn kc cn' cc' kn' kc' : Nat} (h : ¬ (k = k' ∧ n = n' ∧ s = s' ∧ keys = keys' ∧ kids.map VT.e = kids'.map VT.e)) :
    sameV (.mk k n s cA cn cc kA kn kc keys kids) (.mk k' n' s' cA' cn' cc' kA' kn' kc' keys' kids') = false := by
  refine bool_no (sameV_iff _ _) ?_
  rw [e_mk, e_mk]
  intro e
  injection e with e1 e2 e3 e4 e5
  exact h ⟨e1, e2, e3, e4, e5⟩
theorem e_yes {k n : Int} {s : ByteArray} {keys : List ByteArray} {kids kids' : List VT} {cA kA cA' kA' : Option Addr} {cn cc kn kc cn' cc' kn' kc' : Nat} (h : kids.map VT.e = kids'.map VT.e) :
    sameV (.mk k n s cA cn cc kA kn kc keys kids) (.mk k n s cA' cn' cc' kA' kn' kc' keys kids') = true := by
  refine (sameV_iff _ _).2 ?_
  rw [e_mk, e_mk, h]
theorem getD_ne {a b : List ByteArray} {j : Nat} (h : a.getD j ⟨#[]⟩ ≠ b.getD j ⟨#[]⟩) : a ≠ b := fun e => h (by rw [e])
theorem at_ne {a b : List VT} {j : Nat} {x y : VT} (hx : a[j]? = some x) (hy : b[j]? = some y) (h : x.e ≠ y.e) : a.map VT.e ≠ b.map VT.e := by
  intro e
  have := congrArg (·[j]?) e
  simp only [List.getElem?_map, hx, hy, Option.map_some] at this
  injection this with this
  exact h this
theorem fit_keysn {k n : Int} {s : ByteArray} {cA : Option Addr} {cn cc : Nat} {kA : Option Addr} {kn kc : Nat} {keys : List ByteArray} {kids : List VT} (h : (VT.mk k n s cA cn cc kA kn kc keys kids).fit = true) : if k = 6 then kn = cn else kn = 0 := by
  have h1 : (shKnown k && (numB k n && (strB k s && (eleB k cn && memB k cn kn keys)))) = true := h
  simp only [Bool.and_eq_true] at h1
  obtain ⟨_, _, _, _, h2⟩ := h1
  unfold memB memQ shKeys at h2
  by_cases h6 : k = 6
  · subst h6
    rw [if_pos rfl]
    simp at h2
    exact h2.1
  · rw [if_neg h6]
    have : (k == 6) = false := by rw [beq_eq_false_iff_ne]; exact h6
    rw [this] at h2
    simpa using h2
theorem keys_take {a b : List ByteArray} {j : Nat} (h : a.take j = b.take j) (ha : j < a.length) (hb : j < b.length) (he : a.getD j ⟨#[]⟩ = b.getD j ⟨#[]⟩) : a.take (j + 1) = b.take (j + 1) := by
  rw [List.getD_eq_getElem?_getD, List.getD_eq_getElem?_getD, List.getElem?_eq_getElem ha, List.getElem?_eq_getElem hb] at he
  rw [List.take_add_one, List.take_add_one, h, List.getElem?_eq_getElem ha, List.getElem?_eq_getElem hb]
  simp at he
  rw [he]
theorem kids_take {a b : List VT} {j : Nat} {x y : VT} (h : (a.take j).map VT.e = (b.take j).map VT.e) (hx : a[j]? = some x) (hy : b[j]? = some y) (he : x.e = y.e) : (a.take (j + 1)).map VT.e = (b.take (j + 1)).map VT.e := by
  rw [List.take_add_one, List.take_add_one, hx, hy, List.map_append, List.map_append, h]
  simp [he]
set_option maxRecDepth 20000 in
set_option maxHeartbeats 8000000 in
theorem rone_any : ∀ (T T' : VT) (B : Nat) (w : World), Lie w B T → Lie w B T' → B ≤ w.heap.size → T.all = true → T'.all = true →
    Calls Try.prog 40 #[T.agg, T'.agg] w fun e w' => e = .returned (.bool (sameV T T')) ∧ Below w.heap.size w w' := by
  intro T
  induction T using VT.ind with
  | h k n s cA cn cc kA kn kc keys kids ih =>
  intro T' B w hL hL' hB hall hall'
  obtain ⟨k', n', s', cA', cn', cc', kA', kn', kc', keys', kids'⟩ := T'
  cases hL with | mk hc hk hz hkid =>
  cases hL' with | mk hc' hk' hz' hkid' =>
  rw [all_mk, Bool.and_eq_true, List.all_eq_true] at hall hall'
  have hkn := fit_keysn hall.1
  have hkn' := fit_keysn hall'.1
  have hlc := kids_len hc
  have hlc' := kids_len hc'
  have hlk := keys_len hk
  have hlk' := keys_len hk'
  have hcm := Nat.le_trans hz.c1 hz.c2
  unfold maxLen at hcm
  have hb1 := bel_alloc (bel_alloc (Below.refl w.heap.size w) (.cells #[.int .i64 k, .int .i64 n, .string s, .slice cA cn cc, .slice kA kn kc] 42)) (.cells #[.int .i64 k', .int .i64 n', .string s', .slice cA' cn' cc', .slice kA' kn' kc'] 42)
  have Hv := Lib.hid ((VFive.new w (.int .i64 k) (.int .i64 n) (.string s) (.slice cA cn cc) (.slice kA kn kc) 42 w.heap.size rfl).alloc (.cells #[.int .i64 k', .int .i64 n', .string s', .slice cA' cn' cc', .slice kA' kn' kc'] 42))
  have Hu := Lib.hid (VFive.new (w.alloc (.cells #[.int .i64 k, .int .i64 n, .string s, .slice cA cn cc, .slice kA kn kc] 42)) (.int .i64 k') (.int .i64 n') (.string s') (.slice cA' cn' cc') (.slice kA' kn' kc') 42 (w.heap.size + 1) (World.size_alloc _ _))
  have HC := Lib.hid hc
  have HC' := Lib.hid hc'
  have HK := Lib.hid hk
  have HK' := Lib.hid hk'
  have Hkid := Lib.hid hkid
  have Hkid' := Lib.hid hkid'
  have Hall := Lib.hid hall.2
  have Hall' := Lib.hid hall'.2
  have Hlk := Lib.hid hlk
  have Hlk' := Lib.hid hlk'
  have Hlc := Lib.hid hlc
  have Hlc' := Lib.hid hlc'
  have Hkn := Lib.hid hkn
  have Hkn' := Lib.hid hkn'
  have Hih := Lib.hid ih
  simp only [VT.agg]
  clear hc hk hz hkid hc' hk' hz' hkid' hall hall' hlc hlc' hlk hlk' hkn hkn' ih
  by_cases h1 : k = k'
  · subst h1
    by_cases h2 : n = n'
    · subst h2
      by_cases h3 : s = s'
      · subst h3
        have he := str_eq s
        have he2 : (s.toList != s.toList) = false := by simp
        by_cases h4 : cn = cn'
        · subst h4
          go_enter Try.func40, Try.ntmps40
          go_upto_region 1 with fail
          generalize ((w.alloc (.cells #[.int .i64 k, .int .i64 n, .string s, .slice cA cn cc, .slice kA kn kc] 42)).alloc (.cells #[.int .i64 k, .int .i64 n, .string s, .slice cA' cn cc', .slice kA' kn' kc'] 42)) = W1 at *
          obtain ⟨⟨z0, z1, z2, z3, z4⟩, -⟩ := Hv.out
          obtain ⟨⟨y0, y1, y2, y3, y4⟩, -⟩ := Hu.out
          go_wp2
          clear z0 z1 z2 z3 z4 y0 y1 y2 y3 y4
          go_loopw [5] (fun i wr => ∃ j : Nat, j ≤ cn ∧ i = .int .i64 j ∧ Hid ((k = 6 → keys.take j = keys'.take j) ∧ (kids.take j).map VT.e = (kids'.take j).map VT.e) ∧ Below W1.heap.size W1 wr) (fun i _ => cn - (intOf i).toNat)
          case atStart => exact ⟨0, Nat.zero_le _, rfl, Lib.hid ⟨fun _ => rfl, rfl⟩, Below.refl _ _⟩
          case round =>
            obtain ⟨j, hj, rfl, HI, hbr⟩ := hrel
            have v0 : ∀ W, Below W1.heap.size W1 W → W.cell? ⟨w.heap.size, 0, none⟩ = some (.int .i64 k) := fun W h => (Hv.out.later h).1.1
            have v1 : ∀ W, Below W1.heap.size W1 W → W.cell? ⟨w.heap.size, 1, none⟩ = some (.int .i64 n) := fun W h => (Hv.out.later h).1.2.1
            have v2 : ∀ W, Below W1.heap.size W1 W → W.cell? ⟨w.heap.size, 2, none⟩ = some (.string s) := fun W h => (Hv.out.later h).1.2.2.1
            have v3 : ∀ W, Below W1.heap.size W1 W → W.cell? ⟨w.heap.size, 3, none⟩ = some (.slice cA cn cc) := fun W h => (Hv.out.later h).1.2.2.2.1
            have v4 : ∀ W, Below W1.heap.size W1 W → W.cell? ⟨w.heap.size, 4, none⟩ = some (.slice kA kn kc) := fun W h => (Hv.out.later h).1.2.2.2.2
            have u0 : ∀ W, Below W1.heap.size W1 W → W.cell? ⟨w.heap.size + 1, 0, none⟩ = some (.int .i64 k) := fun W h => (Hu.out.later h).1.1
            have u3 : ∀ W, Below W1.heap.size W1 W → W.cell? ⟨w.heap.size + 1, 3, none⟩ = some (.slice cA' cn cc') := fun W h => (Hu.out.later h).1.2.2.2.1
            have u4 : ∀ W, Below W1.heap.size W1 W → W.cell? ⟨w.heap.size + 1, 4, none⟩ = some (.slice kA' kn' kc') := fun W h => (Hu.out.later h).1.2.2.2.2
            have t3 := v3 wr hbr
            have hb2 := bel_next hb1 hbr
            by_cases hlt : j < cn
            · have hjc : (j : Int) < cn := by omega
              have hj0 : (0 : Int) ≤ j := by omega
              obtain ⟨b, off, x, rfl, _, hx, _⟩ := kids_at HC.out hlt
              obtain ⟨b', off', y, rfl, _, hy, _⟩ := kids_at HC'.out hlt
              have hx5 : ∀ W, Below W1.heap.size W1 W → Cell5 W b (off + j * 5) x := fun W h => by
                obtain ⟨b2, o2, x2, e, _, hx2, h5⟩ := kids_at (HC.out.below ((bel_next hb1 h).mono hB)) hlt
                injection e with e
                injection e with e1 e2
                subst e1; subst e2
                rw [hx] at hx2
                injection hx2 with hx2
                subst hx2
                exact h5
              have hy5 : ∀ W, Below W1.heap.size W1 W → Cell5 W b' (off' + j * 5) y := fun W h => by
                obtain ⟨b2, o2, x2, e, _, hx2, h5⟩ := kids_at (HC'.out.below ((bel_next hb1 h).mono hB)) hlt
                injection e with e
                injection e with e1 e2
                subst e1; subst e2
                rw [hy] at hx2
                injection hx2 with hx2
                subst hx2
                exact h5
              have hmx : x ∈ kids := List.mem_of_getElem? hx
              have hmy : y ∈ kids' := List.mem_of_getElem? hy
              have Hw0 := Lib.hid (fun W (h : Below W1.heap.size W1 W) => Hih.out x hmx y B W ((Hkid.out x hmx).later ((bel_next hb1 h).mono hB)) ((Hkid'.out y hmy).later ((bel_next hb1 h).mono hB)) (Nat.le_trans hB (bel_next hb1 h).size) (Hall.out x hmx) (Hall'.out y hmy))
              have HIn0 := Lib.hid (fun (hs : sameV x y = true) (hke : k = 6 → keys.getD j ⟨#[]⟩ = keys'.getD j ⟨#[]⟩) => show Hid ((k = 6 → keys.take (j + 1) = keys'.take (j + 1)) ∧ (kids.take (j + 1)).map VT.e = (kids'.take (j + 1)).map VT.e) from
                Lib.hid ⟨fun h6 => keys_take (HI.out.1 h6) (by have a := Hkn.out; rw [if_pos h6] at a; rw [Hlk.out, a]; exact hlt) (by have a := Hkn'.out; rw [if_pos h6] at a; rw [Hlk'.out, a]; exact hlt) (hke h6), kids_take HI.out.2 hx hy ((sameV_iff x y).1 hs)⟩)
              have HNk := Lib.hid (fun (hke : keys.getD j ⟨#[]⟩ ≠ keys'.getD j ⟨#[]⟩) => e_ne (k := k) (n := n) (s := s) (k' := k) (n' := n) (s' := s) (kids := kids) (kids' := kids') (cA := some ⟨b, off, none⟩) (kA := kA) (cA' := some ⟨b', off', none⟩) (kA' := kA') (cn := cn) (cc := cc) (kn := kn) (kc := kc) (cn' := cn) (cc' := cc') (kn' := kn') (kc' := kc') (fun h => getD_ne hke h.2.2.2.1))
              have HNv := Lib.hid (fun (hs : sameV x y = false) => e_ne (k := k) (n := n) (s := s) (keys := keys) (k' := k) (n' := n) (s' := s) (keys' := keys') (cA := some ⟨b, off, none⟩) (kA := kA) (cA' := some ⟨b', off', none⟩) (kA' := kA') (cn := cn) (cc := cc) (kn := kn) (kc := kc) (cn' := cn) (cc' := cc') (kn' := kn') (kc' := kc') (fun h => at_ne hx hy (fun e => by rw [(sameV_iff x y).2 e] at hs; cases hs) h.2.2.2.2))
              clear hx hy hmx hmy HI
              generalize hsv : sameV x y = sv at *
              clear hsv
              obtain ⟨kx, nx, sx, cAx, cnx, ccx, kAx, knx, kcx, keysx, kidsx⟩ := x
              obtain ⟨ky, ny, sy, cAy, cny, ccy, kAy, kny, kcy, keysy, kidsy⟩ := y
              have x0 : ∀ W, Below W1.heap.size W1 W → W.cell? ⟨b, off + j * 5, none⟩ = some (.int .i64 kx) := fun W h => (hx5 W h).1
              have x1 : ∀ W, Below W1.heap.size W1 W → W.cell? ⟨b, off + j * 5 + 1, none⟩ = some (.int .i64 nx) := fun W h => (hx5 W h).2.1
              have x2 : ∀ W, Below W1.heap.size W1 W → W.cell? ⟨b, off + j * 5 + 2, none⟩ = some (.string sx) := fun W h => (hx5 W h).2.2.1
              have x3 : ∀ W, Below W1.heap.size W1 W → W.cell? ⟨b, off + j * 5 + 3, none⟩ = some (.slice cAx cnx ccx) := fun W h => (hx5 W h).2.2.2.1
              have x4 : ∀ W, Below W1.heap.size W1 W → W.cell? ⟨b, off + j * 5 + 4, none⟩ = some (.slice kAx knx kcx) := fun W h => (hx5 W h).2.2.2.2
              have y0 : ∀ W, Below W1.heap.size W1 W → W.cell? ⟨b', off' + j * 5, none⟩ = some (.int .i64 ky) := fun W h => (hy5 W h).1
              have y1 : ∀ W, Below W1.heap.size W1 W → W.cell? ⟨b', off' + j * 5 + 1, none⟩ = some (.int .i64 ny) := fun W h => (hy5 W h).2.1
              have y2 : ∀ W, Below W1.heap.size W1 W → W.cell? ⟨b', off' + j * 5 + 2, none⟩ = some (.string sy) := fun W h => (hy5 W h).2.2.1
              have y3 : ∀ W, Below W1.heap.size W1 W → W.cell? ⟨b', off' + j * 5 + 3, none⟩ = some (.slice cAy cny ccy) := fun W h => (hy5 W h).2.2.2.1
              have y4 : ∀ W, Below W1.heap.size W1 W → W.cell? ⟨b', off' + j * 5 + 4, none⟩ = some (.slice kAy kny kcy) := fun W h => (hy5 W h).2.2.2.2
              have Hw := Hw0
              simp only [VT.agg] at Hw
              clear hx5 hy5 Hw0
              go_upto_region 6 with fail
              clear t3
              by_cases h6 : k = 6
              · have hkn := Hkn.out
                have hkn' := Hkn'.out
                rw [if_pos h6] at hkn hkn'
                subst hkn
                subst hkn'
                obtain ⟨b2, off2, rfl, _, _⟩ := key_at HK.out hlt
                obtain ⟨b3, off3, rfl, _, _⟩ := key_at HK'.out hlt
                have k1 : ∀ W, Below W1.heap.size W1 W → W.cell? ⟨b2, off2 + j, none⟩ = some (.string (keys.getD j ⟨#[]⟩)) := fun W h => by
                  obtain ⟨b4, o4, e, _, hc2⟩ := key_at (HK.out.below ((bel_next hb1 h).mono hB)) hlt
                  injection e with e
                  injection e with e1 e2
                  subst e1; subst e2
                  exact hc2
                have k2 : ∀ W, Below W1.heap.size W1 W → W.cell? ⟨b3, off3 + j, none⟩ = some (.string (keys'.getD j ⟨#[]⟩)) := fun W h => by
                  obtain ⟨b4, o4, e, _, hc2⟩ := key_at (HK'.out.below ((bel_next hb1 h).mono hB)) hlt
                  injection e with e
                  injection e with e1 e2
                  subst e1; subst e2
                  exact hc2
                subst h6
                by_cases hke : keys.getD j ⟨#[]⟩ = keys'.getD j ⟨#[]⟩
                · rw [← hke] at k2
                  have hxx : ((keys.getD j ⟨#[]⟩).toList != (keys.getD j ⟨#[]⟩).toList) = false := by simp
                  cases sv
                  · have HNo := Lib.hid (HNv.out rfl)
                    clear HIn0 HNk HNv hke
                    · generalize keys.getD j ⟨#[]⟩ = key at *
                      refine wp_region_held_drew (S := fun W => Below W1.heap.size W1 W) (by kernel_rfl) (below_drewN hbr 1) (fun hHeld => ?_)
                      refine rg_in 0 rfl (by kernel_rfl) (by kernel_rfl) (by kernel_rfl) (by rfl) (v := ?_) (fun _ _ _ h => h) hHeld (fun w hSw => ?_) ?_
                      rotate_left
                      · (try dsimp only at hSw); go_simp <;> (with_reducible rfl)
                      (try simp only [Act.put, List.setIfInBounds_toArray, List.set_cons_zero, List.set_cons_succ])
                      refine rg_in 1 rfl (by kernel_rfl) (by kernel_rfl) (by kernel_rfl) (by rfl) (v := ?_) (fun _ _ _ h => h) hHeld (fun w hSw => ?_) ?_
                      rotate_left
                      · (try dsimp only at hSw); go_simp <;> (with_reducible rfl)
                      (try simp only [Act.put, List.setIfInBounds_toArray, List.set_cons_zero, List.set_cons_succ])
                      refine rg_in 2 rfl (by kernel_rfl) (by kernel_rfl) (by kernel_rfl) (by rfl) (v := ?_) (fun _ _ _ h => h) hHeld (fun w hSw => ?_) ?_
                      rotate_left
                      · (try dsimp only at hSw); go_simp <;> (with_reducible rfl)
                      (try simp only [Act.put, List.setIfInBounds_toArray, List.set_cons_zero, List.set_cons_succ])
                      refine rg_in 3 rfl (by kernel_rfl) (by kernel_rfl) (by kernel_rfl) (by rfl) (v := ?_) (fun _ _ _ h => h) hHeld (fun w hSw => ?_) ?_
                      rotate_left
                      · (try dsimp only at hSw); go_simp <;> (with_reducible rfl)
                      (try simp only [Act.put, List.setIfInBounds_toArray, List.set_cons_zero, List.set_cons_succ])
                      refine rg_in 4 rfl (by kernel_rfl) (by kernel_rfl) (by kernel_rfl) (by rfl) (v := ?_) (fun _ _ _ h => h) hHeld (fun w hSw => ?_) ?_
                      rotate_left
                      · (try dsimp only at hSw); go_simp <;> (with_reducible rfl)
                      (try simp only [Act.put, List.setIfInBounds_toArray, List.set_cons_zero, List.set_cons_succ])
                      refine rg_in 5 rfl (by kernel_rfl) (by kernel_rfl) (by kernel_rfl) (by rfl) (v := ?_) (fun _ _ _ h => h) hHeld (fun w hSw => ?_) ?_
                      rotate_left
                      · (try dsimp only at hSw); go_simp <;> (with_reducible rfl)
                      (try simp only [Act.put, List.setIfInBounds_toArray, List.set_cons_zero, List.set_cons_succ])
                      refine rg_in 6 rfl (by kernel_rfl) (by kernel_rfl) (by kernel_rfl) (by rfl) (v := ?_) (fun _ _ _ h => h) hHeld (fun w hSw => ?_) ?_
                      rotate_left
                      · (try dsimp only at hSw); go_simp <;> (with_reducible rfl)
                      (try simp only [Act.put, List.setIfInBounds_toArray, List.set_cons_zero, List.set_cons_succ])
                      refine rg_in 7 rfl (by kernel_rfl) (by kernel_rfl) (by kernel_rfl) (by rfl) (v := ?_) (fun _ _ _ h => h) hHeld (fun w hSw => ?_) ?_
                      rotate_left
                      · (try dsimp only at hSw); go_simp <;> (with_reducible rfl)
                      (try simp only [Act.put, List.setIfInBounds_toArray, List.set_cons_zero, List.set_cons_succ])
                      refine rg_in 8 rfl (by kernel_rfl) (by kernel_rfl) (by kernel_rfl) (by rfl) (v := ?_) (fun _ _ _ h => h) hHeld (fun w hSw => ?_) ?_
                      rotate_left
                      · (try dsimp only at hSw); go_simp <;> (with_reducible rfl)
                      (try simp only [Act.put, List.setIfInBounds_toArray, List.set_cons_zero, List.set_cons_succ])
                      refine rg_in 9 rfl (by kernel_rfl) (by kernel_rfl) (by kernel_rfl) (by rfl) (v := ?_) (fun _ _ _ h => h) hHeld (fun w hSw => ?_) ?_
                      rotate_left
                      · (try dsimp only at hSw); go_simp <;> (with_reducible rfl)
                      (try simp only [Act.put, List.setIfInBounds_toArray, List.set_cons_zero, List.set_cons_succ])
                      refine rg_in 10 rfl (by kernel_rfl) (by kernel_rfl) (by kernel_rfl) (by rfl) (v := ?_) (fun _ _ _ h => h) hHeld (fun w hSw => ?_) ?_
                      rotate_left
                      · (try dsimp only at hSw); go_simp <;> (with_reducible rfl)
                      (try simp only [Act.put, List.setIfInBounds_toArray, List.set_cons_zero, List.set_cons_succ])
                      refine rg_in 11 rfl (by kernel_rfl) (by kernel_rfl) (by kernel_rfl) (by rfl) (v := ?_) (fun _ _ _ h => h) hHeld (fun w hSw => ?_) ?_
                      rotate_left
                      · (try dsimp only at hSw); go_simp <;> (with_reducible rfl)
                      (try simp only [Act.put, List.setIfInBounds_toArray, List.set_cons_zero, List.set_cons_succ])
                      refine rg_in 12 rfl (by kernel_rfl) (by kernel_rfl) (by kernel_rfl) (by rfl) (v := ?_) (fun _ _ _ h => h) hHeld (fun w hSw => ?_) ?_
                      rotate_left
                      · (try dsimp only at hSw); go_simp <;> (with_reducible rfl)
                      (try simp only [Act.put, List.setIfInBounds_toArray, List.set_cons_zero, List.set_cons_succ])
                      refine rg_in 13 rfl (by kernel_rfl) (by kernel_rfl) (by kernel_rfl) (by rfl) (v := ?_) (fun _ _ _ h => h) hHeld (fun w hSw => ?_) ?_
                      rotate_left
                      · (try dsimp only at hSw); go_simp <;> (with_reducible rfl)
                      (try simp only [Act.put, List.setIfInBounds_toArray, List.set_cons_zero, List.set_cons_succ])
                      refine rg_in 14 rfl (by kernel_rfl) (by kernel_rfl) (by kernel_rfl) (by rfl) (v := ?_) (fun _ _ _ h => h) hHeld (fun w hSw => ?_) ?_
                      rotate_left
                      · (try dsimp only at hSw); go_simp <;> (with_reducible rfl)
                      (try simp only [Act.put, List.setIfInBounds_toArray, List.set_cons_zero, List.set_cons_succ])
                      refine rg_in 15 rfl (by kernel_rfl) (by kernel_rfl) (by kernel_rfl) (by rfl) (v := ?_) (fun _ _ _ h => h) hHeld (fun w hSw => ?_) ?_
                      rotate_left
                      · (try dsimp only at hSw); go_simp <;> (with_reducible rfl)
                      (try simp only [Act.put, List.setIfInBounds_toArray, List.set_cons_zero, List.set_cons_succ])
                      refine rg_in 16 rfl (by kernel_rfl) (by kernel_rfl) (by kernel_rfl) (by rfl) (v := ?_) (fun _ _ _ h => h) hHeld (fun w hSw => ?_) ?_
                      rotate_left
                      · (try dsimp only at hSw); go_simp <;> (with_reducible rfl)
                      (try simp only [Act.put, List.setIfInBounds_toArray, List.set_cons_zero, List.set_cons_succ])
                      refine rg_in 17 rfl (by kernel_rfl) (by kernel_rfl) (by kernel_rfl) (by rfl) (v := ?_) (fun _ _ _ h => h) hHeld (fun w hSw => ?_) ?_
                      rotate_left
                      · (try dsimp only at hSw); go_simp <;> (with_reducible rfl)
                      (try simp only [Act.put, List.setIfInBounds_toArray, List.set_cons_zero, List.set_cons_succ])
                      refine rg_in 18 rfl (by kernel_rfl) (by kernel_rfl) (by kernel_rfl) (by rfl) (v := ?_) (fun _ _ _ h => h) hHeld (fun w hSw => ?_) ?_
                      rotate_left
                      · (try dsimp only at hSw); go_simp <;> (with_reducible rfl)
                      (try simp only [Act.put, List.setIfInBounds_toArray, List.set_cons_zero, List.set_cons_succ])
                      refine rg_in 19 rfl (by kernel_rfl) (by kernel_rfl) (by kernel_rfl) (by rfl) (v := ?_) (fun _ _ _ h => h) hHeld (fun w hSw => ?_) ?_
                      rotate_left
                      · (try dsimp only at hSw); go_simp <;> (with_reducible rfl)
                      (try simp only [Act.put, List.setIfInBounds_toArray, List.set_cons_zero, List.set_cons_succ])
                      refine rg_in 20 rfl (by kernel_rfl) (by kernel_rfl) (by kernel_rfl) (by rfl) (v := ?_) (fun _ _ _ h => h) hHeld (fun w hSw => ?_) ?_
                      rotate_left
                      · (try dsimp only at hSw); go_simp <;> (with_reducible rfl)
                      (try simp only [Act.put, List.setIfInBounds_toArray, List.set_cons_zero, List.set_cons_succ])
                      refine rg_in 21 rfl (by kernel_rfl) (by kernel_rfl) (by kernel_rfl) (by rfl) (v := ?_) (fun _ _ _ h => h) hHeld (fun w hSw => ?_) ?_
                      rotate_left
                      · (try dsimp only at hSw); go_simp <;> (with_reducible rfl)
                      (try simp only [Act.put, List.setIfInBounds_toArray, List.set_cons_zero, List.set_cons_succ])
                      refine rg_in 22 rfl (by kernel_rfl) (by kernel_rfl) (by kernel_rfl) (by rfl) (v := ?_) (fun _ _ _ h => h) hHeld (fun w hSw => ?_) ?_
                      rotate_left
                      · (try dsimp only at hSw); go_simp <;> (with_reducible rfl)
                      (try simp only [Act.put, List.setIfInBounds_toArray, List.set_cons_zero, List.set_cons_succ])
                      refine rg_in 23 rfl (by kernel_rfl) (by kernel_rfl) (by kernel_rfl) (by rfl) (v := ?_) (fun _ _ _ h => h) hHeld (fun w hSw => ?_) ?_
                      rotate_left
                      · (try dsimp only at hSw); go_simp <;> (with_reducible rfl)
                      (try simp only [Act.put, List.setIfInBounds_toArray, List.set_cons_zero, List.set_cons_succ])
                      refine rg_in 24 rfl (by kernel_rfl) (by kernel_rfl) (by kernel_rfl) (by rfl) (v := ?_) (fun _ _ _ h => h) hHeld (fun w hSw => ?_) ?_
                      rotate_left
                      · (try dsimp only at hSw); go_simp <;> (with_reducible rfl)
                      (try simp only [Act.put, List.setIfInBounds_toArray, List.set_cons_zero, List.set_cons_succ])
                      refine rg_in 25 rfl (by kernel_rfl) (by kernel_rfl) (by kernel_rfl) (by rfl) (v := ?_) (fun _ _ _ h => h) hHeld (fun w hSw => ?_) ?_
                      rotate_left
                      · (try dsimp only at hSw); go_simp <;> (with_reducible rfl)
                      (try simp only [Act.put, List.setIfInBounds_toArray, List.set_cons_zero, List.set_cons_succ])
                      refine rg_in 26 rfl (by kernel_rfl) (by kernel_rfl) (by kernel_rfl) (by rfl) (v := ?_) (fun _ _ _ h => h) hHeld (fun w hSw => ?_) ?_
                      rotate_left
                      · (try dsimp only at hSw); go_simp <;> (with_reducible rfl)
                      (try simp only [Act.put, List.setIfInBounds_toArray, List.set_cons_zero, List.set_cons_succ])
                      refine rg_do 27 rfl (by kernel_rfl) (by rfl) (fun K hK => ?_)
                      go_simp
                      (go_at_call 40; (with_reducible refine (Hw.out _ hHeld).mono ?_); (rintro e w127 ⟨rfl, hb27⟩))
                      refine hK.out _ _ (S_call hb27 hHeld rfl) (fun hHeld => ?_)
                      clear hK K
                      (try simp only [Act.put, List.setIfInBounds_toArray, List.set_cons_zero, List.set_cons_succ])
                      refine rg_in 28 rfl (by kernel_rfl) (by kernel_rfl) (by kernel_rfl) (by rfl) (v := ?_) (fun _ _ _ h => h) hHeld (fun w hSw => ?_) ?_
                      rotate_left
                      · (try dsimp only at hSw); go_simp <;> (with_reducible rfl)
                      (try simp only [Act.put, List.setIfInBounds_toArray, List.set_cons_zero, List.set_cons_succ])
                      refine rg_in 29 rfl (by kernel_rfl) (by kernel_rfl) (by kernel_rfl) (by rfl) (v := ?_) (fun _ _ _ h => h) hHeld (fun w hSw => ?_) ?_
                      rotate_left
                      · (try dsimp only at hSw); go_simp <;> (with_reducible rfl)
                      (try simp only [Act.put, List.setIfInBounds_toArray, List.set_cons_zero, List.set_cons_succ])
                      refine wpAnyH_done (by kernel_rfl) ?_ _
                      go_wp2
                      go_ret
                      exact ⟨vret_b (by rw [HNo.out]), bel_next hb1 hHeld⟩
                  · have HIn := HIn0.out rfl (fun _ => hke)
                    clear HIn0 HNk HNv hke
                    · generalize keys.getD j ⟨#[]⟩ = key at *
                      refine wp_region_held_drew (S := fun W => Below W1.heap.size W1 W) (by kernel_rfl) (below_drewN hbr 1) (fun hHeld => ?_)
                      refine rg_in 0 rfl (by kernel_rfl) (by kernel_rfl) (by kernel_rfl) (by rfl) (v := ?_) (fun _ _ _ h => h) hHeld (fun w hSw => ?_) ?_
                      rotate_left
                      · (try dsimp only at hSw); go_simp <;> (with_reducible rfl)
                      (try simp only [Act.put, List.setIfInBounds_toArray, List.set_cons_zero, List.set_cons_succ])
                      refine rg_in 1 rfl (by kernel_rfl) (by kernel_rfl) (by kernel_rfl) (by rfl) (v := ?_) (fun _ _ _ h => h) hHeld (fun w hSw => ?_) ?_
                      rotate_left
                      · (try dsimp only at hSw); go_simp <;> (with_reducible rfl)
                      (try simp only [Act.put, List.setIfInBounds_toArray, List.set_cons_zero, List.set_cons_succ])
                      refine rg_in 2 rfl (by kernel_rfl) (by kernel_rfl) (by kernel_rfl) (by rfl) (v := ?_) (fun _ _ _ h => h) hHeld (fun w hSw => ?_) ?_
                      rotate_left
                      · (try dsimp only at hSw); go_simp <;> (with_reducible rfl)
                      (try simp only [Act.put, List.setIfInBounds_toArray, List.set_cons_zero, List.set_cons_succ])
                      refine rg_in 3 rfl (by kernel_rfl) (by kernel_rfl) (by kernel_rfl) (by rfl) (v := ?_) (fun _ _ _ h => h) hHeld (fun w hSw => ?_) ?_
                      rotate_left
                      · (try dsimp only at hSw); go_simp <;> (with_reducible rfl)
                      (try simp only [Act.put, List.setIfInBounds_toArray, List.set_cons_zero, List.set_cons_succ])
                      refine rg_in 4 rfl (by kernel_rfl) (by kernel_rfl) (by kernel_rfl) (by rfl) (v := ?_) (fun _ _ _ h => h) hHeld (fun w hSw => ?_) ?_
                      rotate_left
                      · (try dsimp only at hSw); go_simp <;> (with_reducible rfl)
                      (try simp only [Act.put, List.setIfInBounds_toArray, List.set_cons_zero, List.set_cons_succ])
                      refine rg_in 5 rfl (by kernel_rfl) (by kernel_rfl) (by kernel_rfl) (by rfl) (v := ?_) (fun _ _ _ h => h) hHeld (fun w hSw => ?_) ?_
                      rotate_left
                      · (try dsimp only at hSw); go_simp <;> (with_reducible rfl)
                      (try simp only [Act.put, List.setIfInBounds_toArray, List.set_cons_zero, List.set_cons_succ])
                      refine rg_in 6 rfl (by kernel_rfl) (by kernel_rfl) (by kernel_rfl) (by rfl) (v := ?_) (fun _ _ _ h => h) hHeld (fun w hSw => ?_) ?_
                      rotate_left
                      · (try dsimp only at hSw); go_simp <;> (with_reducible rfl)
                      (try simp only [Act.put, List.setIfInBounds_toArray, List.set_cons_zero, List.set_cons_succ])
                      refine rg_in 7 rfl (by kernel_rfl) (by kernel_rfl) (by kernel_rfl) (by rfl) (v := ?_) (fun _ _ _ h => h) hHeld (fun w hSw => ?_) ?_
                      rotate_left
                      · (try dsimp only at hSw); go_simp <;> (with_reducible rfl)
                      (try simp only [Act.put, List.setIfInBounds_toArray, List.set_cons_zero, List.set_cons_succ])
                      refine rg_in 8 rfl (by kernel_rfl) (by kernel_rfl) (by kernel_rfl) (by rfl) (v := ?_) (fun _ _ _ h => h) hHeld (fun w hSw => ?_) ?_
                      rotate_left
                      · (try dsimp only at hSw); go_simp <;> (with_reducible rfl)
                      (try simp only [Act.put, List.setIfInBounds_toArray, List.set_cons_zero, List.set_cons_succ])
                      refine rg_in 9 rfl (by kernel_rfl) (by kernel_rfl) (by kernel_rfl) (by rfl) (v := ?_) (fun _ _ _ h => h) hHeld (fun w hSw => ?_) ?_
                      rotate_left
                      · (try dsimp only at hSw); go_simp <;> (with_reducible rfl)
                      (try simp only [Act.put, List.setIfInBounds_toArray, List.set_cons_zero, List.set_cons_succ])
                      refine rg_in 10 rfl (by kernel_rfl) (by kernel_rfl) (by kernel_rfl) (by rfl) (v := ?_) (fun _ _ _ h => h) hHeld (fun w hSw => ?_) ?_
                      rotate_left
                      · (try dsimp only at hSw); go_simp <;> (with_reducible rfl)
                      (try simp only [Act.put, List.setIfInBounds_toArray, List.set_cons_zero, List.set_cons_succ])
                      refine rg_in 11 rfl (by kernel_rfl) (by kernel_rfl) (by kernel_rfl) (by rfl) (v := ?_) (fun _ _ _ h => h) hHeld (fun w hSw => ?_) ?_
                      rotate_left
                      · (try dsimp only at hSw); go_simp <;> (with_reducible rfl)
                      (try simp only [Act.put, List.setIfInBounds_toArray, List.set_cons_zero, List.set_cons_succ])
                      refine rg_in 12 rfl (by kernel_rfl) (by kernel_rfl) (by kernel_rfl) (by rfl) (v := ?_) (fun _ _ _ h => h) hHeld (fun w hSw => ?_) ?_
                      rotate_left
                      · (try dsimp only at hSw); go_simp <;> (with_reducible rfl)
                      (try simp only [Act.put, List.setIfInBounds_toArray, List.set_cons_zero, List.set_cons_succ])
                      refine rg_in 13 rfl (by kernel_rfl) (by kernel_rfl) (by kernel_rfl) (by rfl) (v := ?_) (fun _ _ _ h => h) hHeld (fun w hSw => ?_) ?_
                      rotate_left
                      · (try dsimp only at hSw); go_simp <;> (with_reducible rfl)
                      (try simp only [Act.put, List.setIfInBounds_toArray, List.set_cons_zero, List.set_cons_succ])
                      refine rg_in 14 rfl (by kernel_rfl) (by kernel_rfl) (by kernel_rfl) (by rfl) (v := ?_) (fun _ _ _ h => h) hHeld (fun w hSw => ?_) ?_
                      rotate_left
                      · (try dsimp only at hSw); go_simp <;> (with_reducible rfl)
                      (try simp only [Act.put, List.setIfInBounds_toArray, List.set_cons_zero, List.set_cons_succ])
                      refine rg_in 15 rfl (by kernel_rfl) (by kernel_rfl) (by kernel_rfl) (by rfl) (v := ?_) (fun _ _ _ h => h) hHeld (fun w hSw => ?_) ?_
                      rotate_left
                      · (try dsimp only at hSw); go_simp <;> (with_reducible rfl)
                      (try simp only [Act.put, List.setIfInBounds_toArray, List.set_cons_zero, List.set_cons_succ])
                      refine rg_in 16 rfl (by kernel_rfl) (by kernel_rfl) (by kernel_rfl) (by rfl) (v := ?_) (fun _ _ _ h => h) hHeld (fun w hSw => ?_) ?_
                      rotate_left
                      · (try dsimp only at hSw); go_simp <;> (with_reducible rfl)
                      (try simp only [Act.put, List.setIfInBounds_toArray, List.set_cons_zero, List.set_cons_succ])
                      refine rg_in 17 rfl (by kernel_rfl) (by kernel_rfl) (by kernel_rfl) (by rfl) (v := ?_) (fun _ _ _ h => h) hHeld (fun w hSw => ?_) ?_
                      rotate_left
                      · (try dsimp only at hSw); go_simp <;> (with_reducible rfl)
                      (try simp only [Act.put, List.setIfInBounds_toArray, List.set_cons_zero, List.set_cons_succ])
                      refine rg_in 18 rfl (by kernel_rfl) (by kernel_rfl) (by kernel_rfl) (by rfl) (v := ?_) (fun _ _ _ h => h) hHeld (fun w hSw => ?_) ?_
                      rotate_left
                      · (try dsimp only at hSw); go_simp <;> (with_reducible rfl)
                      (try simp only [Act.put, List.setIfInBounds_toArray, List.set_cons_zero, List.set_cons_succ])
                      refine rg_in 19 rfl (by kernel_rfl) (by kernel_rfl) (by kernel_rfl) (by rfl) (v := ?_) (fun _ _ _ h => h) hHeld (fun w hSw => ?_) ?_
                      rotate_left
                      · (try dsimp only at hSw); go_simp <;> (with_reducible rfl)
                      (try simp only [Act.put, List.setIfInBounds_toArray, List.set_cons_zero, List.set_cons_succ])
                      refine rg_in 20 rfl (by kernel_rfl) (by kernel_rfl) (by kernel_rfl) (by rfl) (v := ?_) (fun _ _ _ h => h) hHeld (fun w hSw => ?_) ?_
                      rotate_left
                      · (try dsimp only at hSw); go_simp <;> (with_reducible rfl)
                      (try simp only [Act.put, List.setIfInBounds_toArray, List.set_cons_zero, List.set_cons_succ])
                      refine rg_in 21 rfl (by kernel_rfl) (by kernel_rfl) (by kernel_rfl) (by rfl) (v := ?_) (fun _ _ _ h => h) hHeld (fun w hSw => ?_) ?_
                      rotate_left
                      · (try dsimp only at hSw); go_simp <;> (with_reducible rfl)
                      (try simp only [Act.put, List.setIfInBounds_toArray, List.set_cons_zero, List.set_cons_succ])
                      refine rg_in 22 rfl (by kernel_rfl) (by kernel_rfl) (by kernel_rfl) (by rfl) (v := ?_) (fun _ _ _ h => h) hHeld (fun w hSw => ?_) ?_
                      rotate_left
                      · (try dsimp only at hSw); go_simp <;> (with_reducible rfl)
                      (try simp only [Act.put, List.setIfInBounds_toArray, List.set_cons_zero, List.set_cons_succ])
                      refine rg_in 23 rfl (by kernel_rfl) (by kernel_rfl) (by kernel_rfl) (by rfl) (v := ?_) (fun _ _ _ h => h) hHeld (fun w hSw => ?_) ?_
                      rotate_left
                      · (try dsimp only at hSw); go_simp <;> (with_reducible rfl)
                      (try simp only [Act.put, List.setIfInBounds_toArray, List.set_cons_zero, List.set_cons_succ])
                      refine rg_in 24 rfl (by kernel_rfl) (by kernel_rfl) (by kernel_rfl) (by rfl) (v := ?_) (fun _ _ _ h => h) hHeld (fun w hSw => ?_) ?_
                      rotate_left
                      · (try dsimp only at hSw); go_simp <;> (with_reducible rfl)
                      (try simp only [Act.put, List.setIfInBounds_toArray, List.set_cons_zero, List.set_cons_succ])
                      refine rg_in 25 rfl (by kernel_rfl) (by kernel_rfl) (by kernel_rfl) (by rfl) (v := ?_) (fun _ _ _ h => h) hHeld (fun w hSw => ?_) ?_
                      rotate_left
                      · (try dsimp only at hSw); go_simp <;> (with_reducible rfl)
                      (try simp only [Act.put, List.setIfInBounds_toArray, List.set_cons_zero, List.set_cons_succ])
                      refine rg_in 26 rfl (by kernel_rfl) (by kernel_rfl) (by kernel_rfl) (by rfl) (v := ?_) (fun _ _ _ h => h) hHeld (fun w hSw => ?_) ?_
                      rotate_left
                      · (try dsimp only at hSw); go_simp <;> (with_reducible rfl)
                      (try simp only [Act.put, List.setIfInBounds_toArray, List.set_cons_zero, List.set_cons_succ])
                      refine rg_do 27 rfl (by kernel_rfl) (by rfl) (fun K hK => ?_)
                      go_simp
                      (go_at_call 40; (with_reducible refine (Hw.out _ hHeld).mono ?_); (rintro e w127 ⟨rfl, hb27⟩))
                      refine hK.out _ _ (S_call hb27 hHeld rfl) (fun hHeld => ?_)
                      clear hK K
                      (try simp only [Act.put, List.setIfInBounds_toArray, List.set_cons_zero, List.set_cons_succ])
                      refine rg_in 28 rfl (by kernel_rfl) (by kernel_rfl) (by kernel_rfl) (by rfl) (v := ?_) (fun _ _ _ h => h) hHeld (fun w hSw => ?_) ?_
                      rotate_left
                      · (try dsimp only at hSw); go_simp <;> (with_reducible rfl)
                      (try simp only [Act.put, List.setIfInBounds_toArray, List.set_cons_zero, List.set_cons_succ])
                      refine rg_in 29 rfl (by kernel_rfl) (by kernel_rfl) (by kernel_rfl) (by rfl) (v := ?_) (fun _ _ _ h => h) hHeld (fun w hSw => ?_) ?_
                      rotate_left
                      · (try dsimp only at hSw); go_simp <;> (with_reducible rfl)
                      (try simp only [Act.put, List.setIfInBounds_toArray, List.set_cons_zero, List.set_cons_succ])
                      refine wpAnyH_done (by kernel_rfl) ?_ _
                      go_wp2
                      go_roundw
                      case rel => exact ⟨j + 1, by omega, by go_num, by first | exact HIn | exact Lib.hid ⟨fun _ => HIn.out.1 rfl, HIn.out.2⟩, hHeld⟩
                      case measure => simp [intOf]; omega
                · have HNo := Lib.hid (HNk.out hke)
                  have hxx : ((keys.getD j ⟨#[]⟩).toList != (keys'.getD j ⟨#[]⟩).toList) = true := by
                    rw [bne, str_ne hke]; rfl
                  have hxy := str_ne hke
                  clear HIn0 HNk HNv hke
                  · generalize keys.getD j ⟨#[]⟩ = key at *
                    generalize keys'.getD j ⟨#[]⟩ = key' at *
                    refine wp_region_held_drew (S := fun W => Below W1.heap.size W1 W) (by kernel_rfl) (below_drewN hbr 1) (fun hHeld => ?_)
                    refine rg_in 0 rfl (by kernel_rfl) (by kernel_rfl) (by kernel_rfl) (by rfl) (v := ?_) (fun _ _ _ h => h) hHeld (fun w hSw => ?_) ?_
                    rotate_left
                    · (try dsimp only at hSw); go_simp <;> (with_reducible rfl)
                    (try simp only [Act.put, List.setIfInBounds_toArray, List.set_cons_zero, List.set_cons_succ])
                    refine rg_in 1 rfl (by kernel_rfl) (by kernel_rfl) (by kernel_rfl) (by rfl) (v := ?_) (fun _ _ _ h => h) hHeld (fun w hSw => ?_) ?_
                    rotate_left
                    · (try dsimp only at hSw); go_simp <;> (with_reducible rfl)
                    (try simp only [Act.put, List.setIfInBounds_toArray, List.set_cons_zero, List.set_cons_succ])
                    refine rg_in 2 rfl (by kernel_rfl) (by kernel_rfl) (by kernel_rfl) (by rfl) (v := ?_) (fun _ _ _ h => h) hHeld (fun w hSw => ?_) ?_
                    rotate_left
                    · (try dsimp only at hSw); go_simp <;> (with_reducible rfl)
                    (try simp only [Act.put, List.setIfInBounds_toArray, List.set_cons_zero, List.set_cons_succ])
                    refine rg_in 3 rfl (by kernel_rfl) (by kernel_rfl) (by kernel_rfl) (by rfl) (v := ?_) (fun _ _ _ h => h) hHeld (fun w hSw => ?_) ?_
                    rotate_left
                    · (try dsimp only at hSw); go_simp <;> (with_reducible rfl)
                    (try simp only [Act.put, List.setIfInBounds_toArray, List.set_cons_zero, List.set_cons_succ])
                    refine rg_in 4 rfl (by kernel_rfl) (by kernel_rfl) (by kernel_rfl) (by rfl) (v := ?_) (fun _ _ _ h => h) hHeld (fun w hSw => ?_) ?_
                    rotate_left
                    · (try dsimp only at hSw); go_simp <;> (with_reducible rfl)
                    (try simp only [Act.put, List.setIfInBounds_toArray, List.set_cons_zero, List.set_cons_succ])
                    refine rg_in 5 rfl (by kernel_rfl) (by kernel_rfl) (by kernel_rfl) (by rfl) (v := ?_) (fun _ _ _ h => h) hHeld (fun w hSw => ?_) ?_
                    rotate_left
                    · (try dsimp only at hSw); go_simp <;> (with_reducible rfl)
                    (try simp only [Act.put, List.setIfInBounds_toArray, List.set_cons_zero, List.set_cons_succ])
                    refine rg_in 6 rfl (by kernel_rfl) (by kernel_rfl) (by kernel_rfl) (by rfl) (v := ?_) (fun _ _ _ h => h) hHeld (fun w hSw => ?_) ?_
                    rotate_left
                    · (try dsimp only at hSw); go_simp <;> (with_reducible rfl)
                    (try simp only [Act.put, List.setIfInBounds_toArray, List.set_cons_zero, List.set_cons_succ])
                    refine rg_in 7 rfl (by kernel_rfl) (by kernel_rfl) (by kernel_rfl) (by rfl) (v := ?_) (fun _ _ _ h => h) hHeld (fun w hSw => ?_) ?_
                    rotate_left
                    · (try dsimp only at hSw); go_simp <;> (with_reducible rfl)
                    (try simp only [Act.put, List.setIfInBounds_toArray, List.set_cons_zero, List.set_cons_succ])
                    refine rg_in 8 rfl (by kernel_rfl) (by kernel_rfl) (by kernel_rfl) (by rfl) (v := ?_) (fun _ _ _ h => h) hHeld (fun w hSw => ?_) ?_
                    rotate_left
                    · (try dsimp only at hSw); go_simp <;> (with_reducible rfl)
                    (try simp only [Act.put, List.setIfInBounds_toArray, List.set_cons_zero, List.set_cons_succ])
                    refine rg_in 9 rfl (by kernel_rfl) (by kernel_rfl) (by kernel_rfl) (by rfl) (v := ?_) (fun _ _ _ h => h) hHeld (fun w hSw => ?_) ?_
                    rotate_left
                    · (try dsimp only at hSw); go_simp <;> (with_reducible rfl)
                    (try simp only [Act.put, List.setIfInBounds_toArray, List.set_cons_zero, List.set_cons_succ])
                    refine rg_in 10 rfl (by kernel_rfl) (by kernel_rfl) (by kernel_rfl) (by rfl) (v := ?_) (fun _ _ _ h => h) hHeld (fun w hSw => ?_) ?_
                    rotate_left
                    · (try dsimp only at hSw); go_simp <;> (with_reducible rfl)
                    (try simp only [Act.put, List.setIfInBounds_toArray, List.set_cons_zero, List.set_cons_succ])
                    refine rg_in 11 rfl (by kernel_rfl) (by kernel_rfl) (by kernel_rfl) (by rfl) (v := ?_) (fun _ _ _ h => h) hHeld (fun w hSw => ?_) ?_
                    rotate_left
                    · (try dsimp only at hSw); go_simp <;> (with_reducible rfl)
                    (try simp only [Act.put, List.setIfInBounds_toArray, List.set_cons_zero, List.set_cons_succ])
                    refine rg_in 12 rfl (by kernel_rfl) (by kernel_rfl) (by kernel_rfl) (by rfl) (v := ?_) (fun _ _ _ h => h) hHeld (fun w hSw => ?_) ?_
                    rotate_left
                    · (try dsimp only at hSw); go_simp <;> (with_reducible rfl)
                    (try simp only [Act.put, List.setIfInBounds_toArray, List.set_cons_zero, List.set_cons_succ])
                    refine rg_in 13 rfl (by kernel_rfl) (by kernel_rfl) (by kernel_rfl) (by rfl) (v := ?_) (fun _ _ _ h => h) hHeld (fun w hSw => ?_) ?_
                    rotate_left
                    · (try dsimp only at hSw); go_simp <;> (with_reducible rfl)
                    (try simp only [Act.put, List.setIfInBounds_toArray, List.set_cons_zero, List.set_cons_succ])
                    refine rg_in 14 rfl (by kernel_rfl) (by kernel_rfl) (by kernel_rfl) (by rfl) (v := ?_) (fun _ _ _ h => h) hHeld (fun w hSw => ?_) ?_
                    rotate_left
                    · (try dsimp only at hSw); go_simp <;> (with_reducible rfl)
                    (try simp only [Act.put, List.setIfInBounds_toArray, List.set_cons_zero, List.set_cons_succ])
                    refine rg_in 15 rfl (by kernel_rfl) (by kernel_rfl) (by kernel_rfl) (by rfl) (v := ?_) (fun _ _ _ h => h) hHeld (fun w hSw => ?_) ?_
                    rotate_left
                    · (try dsimp only at hSw); go_simp <;> (with_reducible rfl)
                    (try simp only [Act.put, List.setIfInBounds_toArray, List.set_cons_zero, List.set_cons_succ])
                    refine rg_in 16 rfl (by kernel_rfl) (by kernel_rfl) (by kernel_rfl) (by rfl) (v := ?_) (fun _ _ _ h => h) hHeld (fun w hSw => ?_) ?_
                    rotate_left
                    · (try dsimp only at hSw); go_simp <;> (with_reducible rfl)
                    (try simp only [Act.put, List.setIfInBounds_toArray, List.set_cons_zero, List.set_cons_succ])
                    refine rg_off 17 rfl (by kernel_rfl) (by kernel_rfl) (by kernel_rfl) (by rfl) (fun _ _ _ h => h) hHeld ?_
                    (try simp only [Act.put, List.setIfInBounds_toArray, List.set_cons_zero, List.set_cons_succ])
                    refine rg_off 18 rfl (by kernel_rfl) (by kernel_rfl) (by kernel_rfl) (by rfl) (fun _ _ _ h => h) hHeld ?_
                    (try simp only [Act.put, List.setIfInBounds_toArray, List.set_cons_zero, List.set_cons_succ])
                    refine rg_off 19 rfl (by kernel_rfl) (by kernel_rfl) (by kernel_rfl) (by rfl) (fun _ _ _ h => h) hHeld ?_
                    (try simp only [Act.put, List.setIfInBounds_toArray, List.set_cons_zero, List.set_cons_succ])
                    refine rg_off 20 rfl (by kernel_rfl) (by kernel_rfl) (by kernel_rfl) (by rfl) (fun _ _ _ h => h) hHeld ?_
                    (try simp only [Act.put, List.setIfInBounds_toArray, List.set_cons_zero, List.set_cons_succ])
                    refine rg_off 21 rfl (by kernel_rfl) (by kernel_rfl) (by kernel_rfl) (by rfl) (fun _ _ _ h => h) hHeld ?_
                    (try simp only [Act.put, List.setIfInBounds_toArray, List.set_cons_zero, List.set_cons_succ])
                    refine rg_off 22 rfl (by kernel_rfl) (by kernel_rfl) (by kernel_rfl) (by rfl) (fun _ _ _ h => h) hHeld ?_
                    (try simp only [Act.put, List.setIfInBounds_toArray, List.set_cons_zero, List.set_cons_succ])
                    refine rg_off 23 rfl (by kernel_rfl) (by kernel_rfl) (by kernel_rfl) (by rfl) (fun _ _ _ h => h) hHeld ?_
                    (try simp only [Act.put, List.setIfInBounds_toArray, List.set_cons_zero, List.set_cons_succ])
                    refine rg_off 24 rfl (by kernel_rfl) (by kernel_rfl) (by kernel_rfl) (by rfl) (fun _ _ _ h => h) hHeld ?_
                    (try simp only [Act.put, List.setIfInBounds_toArray, List.set_cons_zero, List.set_cons_succ])
                    refine rg_off 25 rfl (by kernel_rfl) (by kernel_rfl) (by kernel_rfl) (by rfl) (fun _ _ _ h => h) hHeld ?_
                    (try simp only [Act.put, List.setIfInBounds_toArray, List.set_cons_zero, List.set_cons_succ])
                    refine rg_off 26 rfl (by kernel_rfl) (by kernel_rfl) (by kernel_rfl) (by rfl) (fun _ _ _ h => h) hHeld ?_
                    (try simp only [Act.put, List.setIfInBounds_toArray, List.set_cons_zero, List.set_cons_succ])
                    refine rg_off 27 rfl (by kernel_rfl) (by kernel_rfl) (by kernel_rfl) (by rfl) (fun _ _ _ h => h) hHeld ?_
                    (try simp only [Act.put, List.setIfInBounds_toArray, List.set_cons_zero, List.set_cons_succ])
                    refine rg_off 28 rfl (by kernel_rfl) (by kernel_rfl) (by kernel_rfl) (by rfl) (fun _ _ _ h => h) hHeld ?_
                    (try simp only [Act.put, List.setIfInBounds_toArray, List.set_cons_zero, List.set_cons_succ])
                    refine rg_in 29 rfl (by kernel_rfl) (by kernel_rfl) (by kernel_rfl) (by rfl) (v := ?_) (fun _ _ _ h => h) hHeld (fun w hSw => ?_) ?_
                    rotate_left
                    · (try dsimp only at hSw); go_simp <;> (with_reducible rfl)
                    (try simp only [Act.put, List.setIfInBounds_toArray, List.set_cons_zero, List.set_cons_succ])
                    refine wpAnyH_done (by kernel_rfl) ?_ _
                    go_wp2
                    go_ret
                    exact ⟨vret_b (by rw [HNo.out]), bel_next hb1 hHeld⟩
              · have e6 : (k == 6) = false := by rw [beq_eq_false_iff_ne]; exact h6
                cases sv
                · have HNo := Lib.hid (HNv.out rfl)
                  clear HIn0 HNk HNv
                  · skip
                    refine wp_region_held_drew (S := fun W => Below W1.heap.size W1 W) (by kernel_rfl) (below_drewN hbr 1) (fun hHeld => ?_)
                    refine rg_in 0 rfl (by kernel_rfl) (by kernel_rfl) (by kernel_rfl) (by rfl) (v := ?_) (fun _ _ _ h => h) hHeld (fun w hSw => ?_) ?_
                    rotate_left
                    · (try dsimp only at hSw); go_simp <;> (with_reducible rfl)
                    (try simp only [Act.put, List.setIfInBounds_toArray, List.set_cons_zero, List.set_cons_succ])
                    refine rg_in 1 rfl (by kernel_rfl) (by kernel_rfl) (by kernel_rfl) (by rfl) (v := ?_) (fun _ _ _ h => h) hHeld (fun w hSw => ?_) ?_
                    rotate_left
                    · (try dsimp only at hSw); go_simp <;> (with_reducible rfl)
                    (try simp only [Act.put, List.setIfInBounds_toArray, List.set_cons_zero, List.set_cons_succ])
                    refine rg_in 2 rfl (by kernel_rfl) (by kernel_rfl) (by kernel_rfl) (by rfl) (v := ?_) (fun _ _ _ h => h) hHeld (fun w hSw => ?_) ?_
                    rotate_left
                    · (try dsimp only at hSw); go_simp <;> (with_reducible rfl)
                    (try simp only [Act.put, List.setIfInBounds_toArray, List.set_cons_zero, List.set_cons_succ])
                    refine rg_in 3 rfl (by kernel_rfl) (by kernel_rfl) (by kernel_rfl) (by rfl) (v := ?_) (fun _ _ _ h => h) hHeld (fun w hSw => ?_) ?_
                    rotate_left
                    · (try dsimp only at hSw); go_simp <;> (with_reducible rfl)
                    (try simp only [Act.put, List.setIfInBounds_toArray, List.set_cons_zero, List.set_cons_succ])
                    refine rg_off 4 rfl (by kernel_rfl) (by kernel_rfl) (by kernel_rfl) (by rfl) (fun _ _ _ h => h) hHeld ?_
                    (try simp only [Act.put, List.setIfInBounds_toArray, List.set_cons_zero, List.set_cons_succ])
                    refine rg_off 5 rfl (by kernel_rfl) (by kernel_rfl) (by kernel_rfl) (by rfl) (fun _ _ _ h => h) hHeld ?_
                    (try simp only [Act.put, List.setIfInBounds_toArray, List.set_cons_zero, List.set_cons_succ])
                    refine rg_off 6 rfl (by kernel_rfl) (by kernel_rfl) (by kernel_rfl) (by rfl) (fun _ _ _ h => h) hHeld ?_
                    (try simp only [Act.put, List.setIfInBounds_toArray, List.set_cons_zero, List.set_cons_succ])
                    refine rg_off 7 rfl (by kernel_rfl) (by kernel_rfl) (by kernel_rfl) (by rfl) (fun _ _ _ h => h) hHeld ?_
                    (try simp only [Act.put, List.setIfInBounds_toArray, List.set_cons_zero, List.set_cons_succ])
                    refine rg_off 8 rfl (by kernel_rfl) (by kernel_rfl) (by kernel_rfl) (by rfl) (fun _ _ _ h => h) hHeld ?_
                    (try simp only [Act.put, List.setIfInBounds_toArray, List.set_cons_zero, List.set_cons_succ])
                    refine rg_off 9 rfl (by kernel_rfl) (by kernel_rfl) (by kernel_rfl) (by rfl) (fun _ _ _ h => h) hHeld ?_
                    (try simp only [Act.put, List.setIfInBounds_toArray, List.set_cons_zero, List.set_cons_succ])
                    refine rg_off 10 rfl (by kernel_rfl) (by kernel_rfl) (by kernel_rfl) (by rfl) (fun _ _ _ h => h) hHeld ?_
                    (try simp only [Act.put, List.setIfInBounds_toArray, List.set_cons_zero, List.set_cons_succ])
                    refine rg_off 11 rfl (by kernel_rfl) (by kernel_rfl) (by kernel_rfl) (by rfl) (fun _ _ _ h => h) hHeld ?_
                    (try simp only [Act.put, List.setIfInBounds_toArray, List.set_cons_zero, List.set_cons_succ])
                    refine rg_off 12 rfl (by kernel_rfl) (by kernel_rfl) (by kernel_rfl) (by rfl) (fun _ _ _ h => h) hHeld ?_
                    (try simp only [Act.put, List.setIfInBounds_toArray, List.set_cons_zero, List.set_cons_succ])
                    refine rg_off 13 rfl (by kernel_rfl) (by kernel_rfl) (by kernel_rfl) (by rfl) (fun _ _ _ h => h) hHeld ?_
                    (try simp only [Act.put, List.setIfInBounds_toArray, List.set_cons_zero, List.set_cons_succ])
                    refine rg_off 14 rfl (by kernel_rfl) (by kernel_rfl) (by kernel_rfl) (by rfl) (fun _ _ _ h => h) hHeld ?_
                    (try simp only [Act.put, List.setIfInBounds_toArray, List.set_cons_zero, List.set_cons_succ])
                    refine rg_in 15 rfl (by kernel_rfl) (by kernel_rfl) (by kernel_rfl) (by rfl) (v := ?_) (fun _ _ _ h => h) hHeld (fun w hSw => ?_) ?_
                    rotate_left
                    · (try dsimp only at hSw); go_simp <;> (with_reducible rfl)
                    (try simp only [Act.put, List.setIfInBounds_toArray, List.set_cons_zero, List.set_cons_succ])
                    refine rg_in 16 rfl (by kernel_rfl) (by kernel_rfl) (by kernel_rfl) (by rfl) (v := ?_) (fun _ _ _ h => h) hHeld (fun w hSw => ?_) ?_
                    rotate_left
                    · (try dsimp only at hSw); go_simp <;> (with_reducible rfl)
                    (try simp only [Act.put, List.setIfInBounds_toArray, List.set_cons_zero, List.set_cons_succ])
                    refine rg_in 17 rfl (by kernel_rfl) (by kernel_rfl) (by kernel_rfl) (by rfl) (v := ?_) (fun _ _ _ h => h) hHeld (fun w hSw => ?_) ?_
                    rotate_left
                    · (try dsimp only at hSw); go_simp <;> (with_reducible rfl)
                    (try simp only [Act.put, List.setIfInBounds_toArray, List.set_cons_zero, List.set_cons_succ])
                    refine rg_in 18 rfl (by kernel_rfl) (by kernel_rfl) (by kernel_rfl) (by rfl) (v := ?_) (fun _ _ _ h => h) hHeld (fun w hSw => ?_) ?_
                    rotate_left
                    · (try dsimp only at hSw); go_simp <;> (with_reducible rfl)
                    (try simp only [Act.put, List.setIfInBounds_toArray, List.set_cons_zero, List.set_cons_succ])
                    refine rg_in 19 rfl (by kernel_rfl) (by kernel_rfl) (by kernel_rfl) (by rfl) (v := ?_) (fun _ _ _ h => h) hHeld (fun w hSw => ?_) ?_
                    rotate_left
                    · (try dsimp only at hSw); go_simp <;> (with_reducible rfl)
                    (try simp only [Act.put, List.setIfInBounds_toArray, List.set_cons_zero, List.set_cons_succ])
                    refine rg_in 20 rfl (by kernel_rfl) (by kernel_rfl) (by kernel_rfl) (by rfl) (v := ?_) (fun _ _ _ h => h) hHeld (fun w hSw => ?_) ?_
                    rotate_left
                    · (try dsimp only at hSw); go_simp <;> (with_reducible rfl)
                    (try simp only [Act.put, List.setIfInBounds_toArray, List.set_cons_zero, List.set_cons_succ])
                    refine rg_in 21 rfl (by kernel_rfl) (by kernel_rfl) (by kernel_rfl) (by rfl) (v := ?_) (fun _ _ _ h => h) hHeld (fun w hSw => ?_) ?_
                    rotate_left
                    · (try dsimp only at hSw); go_simp <;> (with_reducible rfl)
                    (try simp only [Act.put, List.setIfInBounds_toArray, List.set_cons_zero, List.set_cons_succ])
                    refine rg_in 22 rfl (by kernel_rfl) (by kernel_rfl) (by kernel_rfl) (by rfl) (v := ?_) (fun _ _ _ h => h) hHeld (fun w hSw => ?_) ?_
                    rotate_left
                    · (try dsimp only at hSw); go_simp <;> (with_reducible rfl)
                    (try simp only [Act.put, List.setIfInBounds_toArray, List.set_cons_zero, List.set_cons_succ])
                    refine rg_in 23 rfl (by kernel_rfl) (by kernel_rfl) (by kernel_rfl) (by rfl) (v := ?_) (fun _ _ _ h => h) hHeld (fun w hSw => ?_) ?_
                    rotate_left
                    · (try dsimp only at hSw); go_simp <;> (with_reducible rfl)
                    (try simp only [Act.put, List.setIfInBounds_toArray, List.set_cons_zero, List.set_cons_succ])
                    refine rg_in 24 rfl (by kernel_rfl) (by kernel_rfl) (by kernel_rfl) (by rfl) (v := ?_) (fun _ _ _ h => h) hHeld (fun w hSw => ?_) ?_
                    rotate_left
                    · (try dsimp only at hSw); go_simp <;> (with_reducible rfl)
                    (try simp only [Act.put, List.setIfInBounds_toArray, List.set_cons_zero, List.set_cons_succ])
                    refine rg_in 25 rfl (by kernel_rfl) (by kernel_rfl) (by kernel_rfl) (by rfl) (v := ?_) (fun _ _ _ h => h) hHeld (fun w hSw => ?_) ?_
                    rotate_left
                    · (try dsimp only at hSw); go_simp <;> (with_reducible rfl)
                    (try simp only [Act.put, List.setIfInBounds_toArray, List.set_cons_zero, List.set_cons_succ])
                    refine rg_in 26 rfl (by kernel_rfl) (by kernel_rfl) (by kernel_rfl) (by rfl) (v := ?_) (fun _ _ _ h => h) hHeld (fun w hSw => ?_) ?_
                    rotate_left
                    · (try dsimp only at hSw); go_simp <;> (with_reducible rfl)
                    (try simp only [Act.put, List.setIfInBounds_toArray, List.set_cons_zero, List.set_cons_succ])
                    refine rg_do 27 rfl (by kernel_rfl) (by rfl) (fun K hK => ?_)
                    go_simp
                    (go_at_call 40; (with_reducible refine (Hw.out _ hHeld).mono ?_); (rintro e w127 ⟨rfl, hb27⟩))
                    refine hK.out _ _ (S_call hb27 hHeld rfl) (fun hHeld => ?_)
                    clear hK K
                    (try simp only [Act.put, List.setIfInBounds_toArray, List.set_cons_zero, List.set_cons_succ])
                    refine rg_in 28 rfl (by kernel_rfl) (by kernel_rfl) (by kernel_rfl) (by rfl) (v := ?_) (fun _ _ _ h => h) hHeld (fun w hSw => ?_) ?_
                    rotate_left
                    · (try dsimp only at hSw); go_simp <;> (with_reducible rfl)
                    (try simp only [Act.put, List.setIfInBounds_toArray, List.set_cons_zero, List.set_cons_succ])
                    refine rg_in 29 rfl (by kernel_rfl) (by kernel_rfl) (by kernel_rfl) (by rfl) (v := ?_) (fun _ _ _ h => h) hHeld (fun w hSw => ?_) ?_
                    rotate_left
                    · (try dsimp only at hSw); go_simp <;> (with_reducible rfl)
                    (try simp only [Act.put, List.setIfInBounds_toArray, List.set_cons_zero, List.set_cons_succ])
                    refine wpAnyH_done (by kernel_rfl) ?_ _
                    go_wp2
                    go_ret
                    exact ⟨vret_b (by rw [HNo.out]), bel_next hb1 hHeld⟩
                · have HIn := HIn0.out rfl (fun h => absurd h h6)
                  clear HIn0 HNk HNv
                  · skip
                    refine wp_region_held_drew (S := fun W => Below W1.heap.size W1 W) (by kernel_rfl) (below_drewN hbr 1) (fun hHeld => ?_)
                    refine rg_in 0 rfl (by kernel_rfl) (by kernel_rfl) (by kernel_rfl) (by rfl) (v := ?_) (fun _ _ _ h => h) hHeld (fun w hSw => ?_) ?_
                    rotate_left
                    · (try dsimp only at hSw); go_simp <;> (with_reducible rfl)
                    (try simp only [Act.put, List.setIfInBounds_toArray, List.set_cons_zero, List.set_cons_succ])
                    refine rg_in 1 rfl (by kernel_rfl) (by kernel_rfl) (by kernel_rfl) (by rfl) (v := ?_) (fun _ _ _ h => h) hHeld (fun w hSw => ?_) ?_
                    rotate_left
                    · (try dsimp only at hSw); go_simp <;> (with_reducible rfl)
                    (try simp only [Act.put, List.setIfInBounds_toArray, List.set_cons_zero, List.set_cons_succ])
                    refine rg_in 2 rfl (by kernel_rfl) (by kernel_rfl) (by kernel_rfl) (by rfl) (v := ?_) (fun _ _ _ h => h) hHeld (fun w hSw => ?_) ?_
                    rotate_left
                    · (try dsimp only at hSw); go_simp <;> (with_reducible rfl)
                    (try simp only [Act.put, List.setIfInBounds_toArray, List.set_cons_zero, List.set_cons_succ])
                    refine rg_in 3 rfl (by kernel_rfl) (by kernel_rfl) (by kernel_rfl) (by rfl) (v := ?_) (fun _ _ _ h => h) hHeld (fun w hSw => ?_) ?_
                    rotate_left
                    · (try dsimp only at hSw); go_simp <;> (with_reducible rfl)
                    (try simp only [Act.put, List.setIfInBounds_toArray, List.set_cons_zero, List.set_cons_succ])
                    refine rg_off 4 rfl (by kernel_rfl) (by kernel_rfl) (by kernel_rfl) (by rfl) (fun _ _ _ h => h) hHeld ?_
                    (try simp only [Act.put, List.setIfInBounds_toArray, List.set_cons_zero, List.set_cons_succ])
                    refine rg_off 5 rfl (by kernel_rfl) (by kernel_rfl) (by kernel_rfl) (by rfl) (fun _ _ _ h => h) hHeld ?_
                    (try simp only [Act.put, List.setIfInBounds_toArray, List.set_cons_zero, List.set_cons_succ])
                    refine rg_off 6 rfl (by kernel_rfl) (by kernel_rfl) (by kernel_rfl) (by rfl) (fun _ _ _ h => h) hHeld ?_
                    (try simp only [Act.put, List.setIfInBounds_toArray, List.set_cons_zero, List.set_cons_succ])
                    refine rg_off 7 rfl (by kernel_rfl) (by kernel_rfl) (by kernel_rfl) (by rfl) (fun _ _ _ h => h) hHeld ?_
                    (try simp only [Act.put, List.setIfInBounds_toArray, List.set_cons_zero, List.set_cons_succ])
                    refine rg_off 8 rfl (by kernel_rfl) (by kernel_rfl) (by kernel_rfl) (by rfl) (fun _ _ _ h => h) hHeld ?_
                    (try simp only [Act.put, List.setIfInBounds_toArray, List.set_cons_zero, List.set_cons_succ])
                    refine rg_off 9 rfl (by kernel_rfl) (by kernel_rfl) (by kernel_rfl) (by rfl) (fun _ _ _ h => h) hHeld ?_
                    (try simp only [Act.put, List.setIfInBounds_toArray, List.set_cons_zero, List.set_cons_succ])
                    refine rg_off 10 rfl (by kernel_rfl) (by kernel_rfl) (by kernel_rfl) (by rfl) (fun _ _ _ h => h) hHeld ?_
                    (try simp only [Act.put, List.setIfInBounds_toArray, List.set_cons_zero, List.set_cons_succ])
                    refine rg_off 11 rfl (by kernel_rfl) (by kernel_rfl) (by kernel_rfl) (by rfl) (fun _ _ _ h => h) hHeld ?_
                    (try simp only [Act.put, List.setIfInBounds_toArray, List.set_cons_zero, List.set_cons_succ])
                    refine rg_off 12 rfl (by kernel_rfl) (by kernel_rfl) (by kernel_rfl) (by rfl) (fun _ _ _ h => h) hHeld ?_
                    (try simp only [Act.put, List.setIfInBounds_toArray, List.set_cons_zero, List.set_cons_succ])
                    refine rg_off 13 rfl (by kernel_rfl) (by kernel_rfl) (by kernel_rfl) (by rfl) (fun _ _ _ h => h) hHeld ?_
                    (try simp only [Act.put, List.setIfInBounds_toArray, List.set_cons_zero, List.set_cons_succ])
                    refine rg_off 14 rfl (by kernel_rfl) (by kernel_rfl) (by kernel_rfl) (by rfl) (fun _ _ _ h => h) hHeld ?_
                    (try simp only [Act.put, List.setIfInBounds_toArray, List.set_cons_zero, List.set_cons_succ])
                    refine rg_in 15 rfl (by kernel_rfl) (by kernel_rfl) (by kernel_rfl) (by rfl) (v := ?_) (fun _ _ _ h => h) hHeld (fun w hSw => ?_) ?_
                    rotate_left
                    · (try dsimp only at hSw); go_simp <;> (with_reducible rfl)
                    (try simp only [Act.put, List.setIfInBounds_toArray, List.set_cons_zero, List.set_cons_succ])
                    refine rg_in 16 rfl (by kernel_rfl) (by kernel_rfl) (by kernel_rfl) (by rfl) (v := ?_) (fun _ _ _ h => h) hHeld (fun w hSw => ?_) ?_
                    rotate_left
                    · (try dsimp only at hSw); go_simp <;> (with_reducible rfl)
                    (try simp only [Act.put, List.setIfInBounds_toArray, List.set_cons_zero, List.set_cons_succ])
                    refine rg_in 17 rfl (by kernel_rfl) (by kernel_rfl) (by kernel_rfl) (by rfl) (v := ?_) (fun _ _ _ h => h) hHeld (fun w hSw => ?_) ?_
                    rotate_left
                    · (try dsimp only at hSw); go_simp <;> (with_reducible rfl)
                    (try simp only [Act.put, List.setIfInBounds_toArray, List.set_cons_zero, List.set_cons_succ])
                    refine rg_in 18 rfl (by kernel_rfl) (by kernel_rfl) (by kernel_rfl) (by rfl) (v := ?_) (fun _ _ _ h => h) hHeld (fun w hSw => ?_) ?_
                    rotate_left
                    · (try dsimp only at hSw); go_simp <;> (with_reducible rfl)
                    (try simp only [Act.put, List.setIfInBounds_toArray, List.set_cons_zero, List.set_cons_succ])
                    refine rg_in 19 rfl (by kernel_rfl) (by kernel_rfl) (by kernel_rfl) (by rfl) (v := ?_) (fun _ _ _ h => h) hHeld (fun w hSw => ?_) ?_
                    rotate_left
                    · (try dsimp only at hSw); go_simp <;> (with_reducible rfl)
                    (try simp only [Act.put, List.setIfInBounds_toArray, List.set_cons_zero, List.set_cons_succ])
                    refine rg_in 20 rfl (by kernel_rfl) (by kernel_rfl) (by kernel_rfl) (by rfl) (v := ?_) (fun _ _ _ h => h) hHeld (fun w hSw => ?_) ?_
                    rotate_left
                    · (try dsimp only at hSw); go_simp <;> (with_reducible rfl)
                    (try simp only [Act.put, List.setIfInBounds_toArray, List.set_cons_zero, List.set_cons_succ])
                    refine rg_in 21 rfl (by kernel_rfl) (by kernel_rfl) (by kernel_rfl) (by rfl) (v := ?_) (fun _ _ _ h => h) hHeld (fun w hSw => ?_) ?_
                    rotate_left
                    · (try dsimp only at hSw); go_simp <;> (with_reducible rfl)
                    (try simp only [Act.put, List.setIfInBounds_toArray, List.set_cons_zero, List.set_cons_succ])
                    refine rg_in 22 rfl (by kernel_rfl) (by kernel_rfl) (by kernel_rfl) (by rfl) (v := ?_) (fun _ _ _ h => h) hHeld (fun w hSw => ?_) ?_
                    rotate_left
                    · (try dsimp only at hSw); go_simp <;> (with_reducible rfl)
                    (try simp only [Act.put, List.setIfInBounds_toArray, List.set_cons_zero, List.set_cons_succ])
                    refine rg_in 23 rfl (by kernel_rfl) (by kernel_rfl) (by kernel_rfl) (by rfl) (v := ?_) (fun _ _ _ h => h) hHeld (fun w hSw => ?_) ?_
                    rotate_left
                    · (try dsimp only at hSw); go_simp <;> (with_reducible rfl)
                    (try simp only [Act.put, List.setIfInBounds_toArray, List.set_cons_zero, List.set_cons_succ])
                    refine rg_in 24 rfl (by kernel_rfl) (by kernel_rfl) (by kernel_rfl) (by rfl) (v := ?_) (fun _ _ _ h => h) hHeld (fun w hSw => ?_) ?_
                    rotate_left
                    · (try dsimp only at hSw); go_simp <;> (with_reducible rfl)
                    (try simp only [Act.put, List.setIfInBounds_toArray, List.set_cons_zero, List.set_cons_succ])
                    refine rg_in 25 rfl (by kernel_rfl) (by kernel_rfl) (by kernel_rfl) (by rfl) (v := ?_) (fun _ _ _ h => h) hHeld (fun w hSw => ?_) ?_
                    rotate_left
                    · (try dsimp only at hSw); go_simp <;> (with_reducible rfl)
                    (try simp only [Act.put, List.setIfInBounds_toArray, List.set_cons_zero, List.set_cons_succ])
                    refine rg_in 26 rfl (by kernel_rfl) (by kernel_rfl) (by kernel_rfl) (by rfl) (v := ?_) (fun _ _ _ h => h) hHeld (fun w hSw => ?_) ?_
                    rotate_left
                    · (try dsimp only at hSw); go_simp <;> (with_reducible rfl)
                    (try simp only [Act.put, List.setIfInBounds_toArray, List.set_cons_zero, List.set_cons_succ])
                    refine rg_do 27 rfl (by kernel_rfl) (by rfl) (fun K hK => ?_)
                    go_simp
                    (go_at_call 40; (with_reducible refine (Hw.out _ hHeld).mono ?_); (rintro e w127 ⟨rfl, hb27⟩))
                    refine hK.out _ _ (S_call hb27 hHeld rfl) (fun hHeld => ?_)
                    clear hK K
                    (try simp only [Act.put, List.setIfInBounds_toArray, List.set_cons_zero, List.set_cons_succ])
                    refine rg_in 28 rfl (by kernel_rfl) (by kernel_rfl) (by kernel_rfl) (by rfl) (v := ?_) (fun _ _ _ h => h) hHeld (fun w hSw => ?_) ?_
                    rotate_left
                    · (try dsimp only at hSw); go_simp <;> (with_reducible rfl)
                    (try simp only [Act.put, List.setIfInBounds_toArray, List.set_cons_zero, List.set_cons_succ])
                    refine rg_in 29 rfl (by kernel_rfl) (by kernel_rfl) (by kernel_rfl) (by rfl) (v := ?_) (fun _ _ _ h => h) hHeld (fun w hSw => ?_) ?_
                    rotate_left
                    · (try dsimp only at hSw); go_simp <;> (with_reducible rfl)
                    (try simp only [Act.put, List.setIfInBounds_toArray, List.set_cons_zero, List.set_cons_succ])
                    refine wpAnyH_done (by kernel_rfl) ?_ _
                    go_wp2
                    go_roundw
                    case rel => exact ⟨j + 1, by omega, by go_num, by first | exact HIn | exact Lib.hid ⟨fun _ => HIn.out.1 rfl, HIn.out.2⟩, hHeld⟩
                    case measure => simp [intOf]; omega
            · obtain rfl : j = cn := by omega
              have HF := Lib.hid (show sameV (.mk k n s cA j cc kA kn kc keys kids) (.mk k n s cA' j cc' kA' kn' kc' keys' kids') = true by
                have hI := HI.out
                have e1 : kids.map VT.e = kids'.map VT.e := by
                  have := hI.2
                  rwa [List.take_of_length_le (by rw [Hlc.out]; exact Nat.le_refl _), List.take_of_length_le (by rw [Hlc'.out]; exact Nat.le_refl _)] at this
                have e2 : keys = keys' := by
                  by_cases h6 : k = 6
                  · have a := Hkn.out
                    have b := Hkn'.out
                    rw [if_pos h6] at a b
                    have := hI.1 h6
                    rwa [List.take_of_length_le (by rw [Hlk.out, a]; exact Nat.le_refl _), List.take_of_length_le (by rw [Hlk'.out, b]; exact Nat.le_refl _)] at this
                  · have a := Hkn.out
                    have b := Hkn'.out
                    rw [if_neg h6] at a b
                    rw [List.eq_nil_of_length_eq_zero (Hlk.out.trans a), List.eq_nil_of_length_eq_zero (Hlk'.out.trans b)]
                subst e2
                exact e_yes e1)
              go_wp2
              go_ret
              exact ⟨vret_b (by rw [HF.out]), hb2⟩
        · have HR := Lib.hid (e_ne (k := k) (n := n) (s := s) (keys := keys) (k' := k) (n' := n) (s' := s) (keys' := keys') (kids := kids) (kids' := kids') (cA := cA) (kA := kA) (cA' := cA') (kA' := kA') (cn := cn) (cc := cc) (kn := kn) (kc := kc) (cn' := cn') (cc' := cc') (kn' := kn') (kc' := kc') (fun h => h4 (by have := congrArg List.length h.2.2.2.2; rw [List.length_map, List.length_map, Hlc.out, Hlc'.out] at this; exact this)))
          have hn1 : ((cn : Int) == (cn' : Int)) = false := by rw [beq_eq_false_iff_ne]; omega
          have hn2 : ((cn : Int) != (cn' : Int)) = true := by rw [bne, hn1]; rfl
          clear h4
          go_enter Try.func40, Try.ntmps40
          go_wp2
          go_ret
          exact ⟨vret_b HR.out.symm, hb1⟩
      · have HR := Lib.hid (e_ne (k := k) (n := n) (s := s) (keys := keys) (k' := k) (n' := n) (s' := s') (keys' := keys') (kids := kids) (kids' := kids') (cA := cA) (kA := kA) (cA' := cA') (kA' := kA') (cn := cn) (cc := cc) (kn := kn) (kc := kc) (cn' := cn') (cc' := cc') (kn' := kn') (kc' := kc') (fun h => h3 h.2.2.1))
        have he := str_ne h3
        have he2 : (s.toList != s'.toList) = true := by rw [bne, he]; rfl
        clear h3
        go_enter Try.func40, Try.ntmps40
        go_wp2
        go_ret
        exact ⟨vret_b HR.out.symm, hb1⟩
    · have HR := Lib.hid (e_ne (k := k) (n := n) (s := s) (keys := keys) (k' := k) (n' := n') (s' := s') (keys' := keys') (kids := kids) (kids' := kids') (cA := cA) (kA := kA) (cA' := cA') (kA' := kA') (cn := cn) (cc := cc) (kn := kn) (kc := kc) (cn' := cn') (cc' := cc') (kn' := kn') (kc' := kc') (fun h => h2 h.2.1))
      have he : (n == n') = false := by rw [beq_eq_false_iff_ne]; exact h2
      have he2 : (n != n') = true := by rw [bne, he]; rfl
      clear h2
      go_enter Try.func40, Try.ntmps40
      go_wp2
      go_ret
      exact ⟨vret_b HR.out.symm, hb1⟩
  · have HR := Lib.hid (e_ne (k := k) (n := n) (s := s) (keys := keys) (k' := k') (n' := n') (s' := s') (keys' := keys') (kids := kids) (kids' := kids') (cA := cA) (kA := kA) (cA' := cA') (kA' := kA') (cn := cn) (cc := cc) (kn := kn) (kc := kc) (cn' := cn') (cc' := cc') (kn' := kn') (kc' := kc') (fun h => h1 h.1))
    have he : (k == k') = false := by rw [beq_eq_false_iff_ne]; exact h1
    have he2 : (k != k') = true := by rw [bne, he]; rfl
    clear h1
    go_enter Try.func40, Try.ntmps40
    go_wp2
    go_ret
    exact ⟨vret_b HR.out.symm, hb1⟩
end Go.Proofs.Ytinaecmpigenoaa
