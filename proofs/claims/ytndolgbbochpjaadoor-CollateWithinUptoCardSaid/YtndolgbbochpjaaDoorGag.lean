import Derived.Test.YtndolgbbochpjaaDoorGaf
import Derived.Deep.QuietTactic
import Derived.Deep.CutBlock
import Derived.Deep.DeepCutAuto
import Derived.WalkMore
import Derived.Test.YtndolgbbochpjaaDoorSrt
import Derived.Sort.LotA
/-
  Layer 7: element, by what compare says of two kids.
-/
namespace Go.Proofs.YtndolgbbochpjaaDoor
open Go.RowKit
set_option linter.unusedVariables false

/-- Two values in one block. -/
def Ten (w : World) (g : Nat) (a b c d e a' b' c' d' e' : Value) : Prop :=
  (w.cell? ⟨g, 0, none⟩ = some a ∧ w.cell? ⟨g, 1, none⟩ = some b ∧ w.cell? ⟨g, 2, none⟩ = some c ∧ w.cell? ⟨g, 3, none⟩ = some d ∧ w.cell? ⟨g, 4, none⟩ = some e) ∧
  w.cell? ⟨g, 5, none⟩ = some a' ∧ w.cell? ⟨g, 6, none⟩ = some b' ∧ w.cell? ⟨g, 7, none⟩ = some c' ∧ w.cell? ⟨g, 8, none⟩ = some d' ∧ w.cell? ⟨g, 9, none⟩ = some e'
theorem Ten.new (w : World) (a b c d e a' b' c' d' e' : Value) (t : TypeId) (g : Nat) (hg : w.heap.size = g) : Ten (w.alloc (.cells #[a, b, c, d, e, a', b', c', d', e'] t)) g a b c d e a' b' c' d' e' := by
  subst hg
  exact ⟨⟨by simp [go_sem], by simp [go_sem], by simp [go_sem], by simp [go_sem], by simp [go_sem]⟩, by simp [go_sem], by simp [go_sem], by simp [go_sem], by simp [go_sem], by simp [go_sem]⟩
theorem Ten.later {w w1 : World} {g : Nat} {a b c d e a' b' c' d' e' : Value} (h : Ten w g a b c d e a' b' c' d' e') (hb : Below w.heap.size w w1) : Ten w1 g a b c d e a' b' c' d' e' := by
  obtain ⟨⟨r0, r1, r2, r3, r4⟩, s0, s1, s2, s3, s4⟩ := h
  have l := World.block_lt_of_cell? w _ r0
  have k : ∀ o, w1.cell? ⟨g, o, none⟩ = w.cell? ⟨g, o, none⟩ := fun o => hb.cell (p := ⟨g, o, none⟩) l
  exact ⟨⟨(k 0).trans r0, (k 1).trans r1, (k 2).trans r2, (k 3).trans r3, (k 4).trans r4⟩, (k 5).trans s0, (k 6).trans s1, (k 7).trans s2, (k 8).trans s3, (k 9).trans s4⟩
theorem kid_cells {w w1 : World} {B : Nat} {A : Option Addr} {n i : Nat} {l : List VT} {x : VT} (h : Shows w B 5 A n (l.flatMap VT.cells)) (hb : Below w.heap.size w w1) (hB : B ≤ w.heap.size) (hx : l[i]? = some x) :
    ∃ b off, A = some ⟨b, off, none⟩ ∧ ∀ W, Fr w1 W → Cell5 W b (off + i * 5) x := by
  have hi : i < n := by rw [← kids_len h]; exact (List.getElem?_eq_some_iff.1 hx).1
  obtain ⟨b, off, y, rfl, _, hy, _⟩ := kids_at h hi
  refine ⟨b, off, rfl, fun W hW => ?_⟩
  obtain ⟨b2, o2, x2, e, _, hx2, h5⟩ := kids_at (h.below ((bel_next hb hW.1).mono hB)) hi
  injection e with e
  injection e with e1 e2
  subst e1; subst e2
  rw [hx] at hx2
  injection hx2 with hx2
  subst hx2
  exact h5
theorem key_cells {w w1 : World} {B : Nat} {A : Option Addr} {n i : Nat} {l : List ByteArray} (h : Shows w B 1 A n (l.map Value.string)) (hb : Below w.heap.size w w1) (hB : B ≤ w.heap.size) (hi : i < n) :
    ∃ b off, A = some ⟨b, off, none⟩ ∧ ∀ W, Fr w1 W → W.cell? ⟨b, off + i, none⟩ = some (.string (l.getD i ⟨#[]⟩)) := by
  obtain ⟨b, off, rfl, _, _⟩ := key_at h hi
  refine ⟨b, off, rfl, fun W hW => ?_⟩
  obtain ⟨b2, o2, e, _, hc⟩ := key_at (h.below ((bel_next hb hW.1).mono hB)) hi
  injection e with e
  injection e with e1 e2
  subst e1; subst e2
  exact hc
/-- What element says. -/
def eleV (k : Int) (a b : ByteArray) (r : Int) : Int := if k = 6 then thenI (vcmp a b) r else r
set_option maxRecDepth 20000 in
set_option maxHeartbeats 2000000 in
theorem element_any (k n : Int) (s : ByteArray) (cA : Option Addr) (cn cc : Nat) (kA : Option Addr) (kn kc : Nat) (keys : List ByteArray) (kids : List VT)
    (k' n' : Int) (s' : ByteArray) (cA' : Option Addr) (cn' cc' : Nat) (kA' : Option Addr) (kn' kc' : Nat) (keys' : List ByteArray) (kids' : List VT)
    (i : Nat) (x y : VT) (r : Int) (B : Nat) (w : World) (hL : Lie w B (.mk k n s cA cn cc kA kn kc keys kids)) (hL' : Lie w B (.mk k' n' s' cA' cn' cc' kA' kn' kc' keys' kids')) (hB : B ≤ w.heap.size)
    (hx : kids[i]? = some x) (hy : kids'[i]? = some y) (h6 : k = 6 → i < kn ∧ i < kn')
    (hC : ∀ W, Fr w W → Calls Tryd.prog 33 #[x.agg, y.agg] W fun e w' => e = .returned (.int .i64 r) ∧ Fr W w') :
    Calls Tryd.prog 59 #[.agg #[.int .i64 k, .int .i64 n, .string s, .slice cA cn cc, .slice kA kn kc, .int .i64 k', .int .i64 n', .string s', .slice cA' cn' cc', .slice kA' kn' kc'], .int .i64 i] w fun e w' =>
      e = .returned (.int .i64 (eleV k (keys.getD i ⟨#[]⟩) (keys'.getD i ⟨#[]⟩) r)) ∧ Fr w w' := by
  cases hL with
  | mk hs1 hs2 hz1 hk1 =>
  cases hL' with
  | mk hs1' hs2' hz1' hk1' =>
  have hcc : (i : Int) < (cn : Int) := by have := kids_len hs1; have := (List.getElem?_eq_some_iff.1 hx).1; omega
  have hcc' : (i : Int) < (cn' : Int) := by have := kids_len hs1'; have := (List.getElem?_eq_some_iff.1 hy).1; omega
  have hi0 : (0 : Int) ≤ (i : Int) := by omega
  have HC := Lib.hid hC
  clear hz1 hk1 hz1' hk1' hC
  by_cases hk6 : k = 6
  · subst hk6
    obtain ⟨h61, h62⟩ := h6 rfl
    have hb1 := (Fr.refl w).alloc (.cells #[.int .i64 6, .int .i64 n, .string s, .slice cA cn cc, .slice kA kn kc, .int .i64 k', .int .i64 n', .string s', .slice cA' cn' cc', .slice kA' kn' kc'] 74)
    have HT := Lib.hid (Ten.new w (.int .i64 6) (.int .i64 n) (.string s) (.slice cA cn cc) (.slice kA kn kc) (.int .i64 k') (.int .i64 n') (.string s') (.slice cA' cn' cc') (.slice kA' kn' kc') 74 w.heap.size rfl)
    obtain ⟨b, off, rfl, hx5⟩ := kid_cells hs1 hb1.1 hB hx
    obtain ⟨b', off', rfl, hy5⟩ := kid_cells hs1' hb1.1 hB hy
    obtain ⟨b2, off2, rfl, hk5⟩ := key_cells hs2 hb1.1 hB h61
    obtain ⟨b3, off3, rfl, hl5⟩ := key_cells hs2' hb1.1 hB h62
    have hkk : (i : Int) < (kn : Int) := by omega
    have hkk' : (i : Int) < (kn' : Int) := by omega
    clear hs1 hs2 hs1' hs2' hx hy h6 h61 h62
    generalize keys.getD i ⟨#[]⟩ = ka at *
    generalize keys'.getD i ⟨#[]⟩ = kb at *
    have hfl0 := fun (W : World) => vcompare_any ka kb W
    unfold eleV
    rw [if_pos rfl]
    generalize vcmp ka kb = v at *
    by_cases hv : v = 0
    · subst hv
      rw [show thenI 0 r = r from if_pos rfl]
      go_enter Tryd.func59, Tryd.ntmps59
      go_upto_region 1 with fail
      generalize (w.alloc (.cells #[.int .i64 6, .int .i64 n, .string s, .slice (some ⟨b, off, none⟩) cn cc, .slice (some ⟨b2, off2, none⟩) kn kc, .int .i64 k', .int .i64 n', .string s', .slice (some ⟨b', off', none⟩) cn' cc', .slice (some ⟨b3, off3, none⟩) kn' kc'] 74)) = w1 at *
      obtain ⟨⟨t0, -, -, -, t4⟩, -, -, -, -, u4⟩ := HT.out
      have k2 := hk5 w1 (Fr.refl _)
      have k3 := hl5 w1 (Fr.refl _)
      clear hk5 hl5
      have hfl := fun (j : Nat) => hfl0 (w1.drewN j)
      go_wp2
      go_quiet ((go_at_call 58; exact Calls.quiet_of_same (hfl _)))
      clear hfl hfl0 t0 t4 u4 k2 k3
      go_upto_region 5 with fail
      have t3 : ∀ W, Fr w1 W → W.cell? ⟨w.heap.size, 3, none⟩ = some (.slice (some ⟨b, off, none⟩) cn cc) := fun W h => (HT.out.later h.1).1.2.2.2.1
      have u3 : ∀ W, Fr w1 W → W.cell? ⟨w.heap.size, 8, none⟩ = some (.slice (some ⟨b', off', none⟩) cn' cc') := fun W h => (HT.out.later h.1).2.2.2.2.1
      obtain ⟨kx, nx, sx, cAx, cnx, ccx, kAx, knx, kcx, keysx, kidsx⟩ := x
      obtain ⟨ky, ny, sy, cAy, cny, ccy, kAy, kny, kcy, keysy, kidsy⟩ := y
      have x0 : ∀ W, Fr w1 W → W.cell? ⟨b, off + i * 5, none⟩ = some (.int .i64 kx) := fun W h => (hx5 W h).1
      have x1 : ∀ W, Fr w1 W → W.cell? ⟨b, off + i * 5 + 1, none⟩ = some (.int .i64 nx) := fun W h => (hx5 W h).2.1
      have x2 : ∀ W, Fr w1 W → W.cell? ⟨b, off + i * 5 + 2, none⟩ = some (.string sx) := fun W h => (hx5 W h).2.2.1
      have x3 : ∀ W, Fr w1 W → W.cell? ⟨b, off + i * 5 + 3, none⟩ = some (.slice cAx cnx ccx) := fun W h => (hx5 W h).2.2.2.1
      have x4 : ∀ W, Fr w1 W → W.cell? ⟨b, off + i * 5 + 4, none⟩ = some (.slice kAx knx kcx) := fun W h => (hx5 W h).2.2.2.2
      have y0 : ∀ W, Fr w1 W → W.cell? ⟨b', off' + i * 5, none⟩ = some (.int .i64 ky) := fun W h => (hy5 W h).1
      have y1 : ∀ W, Fr w1 W → W.cell? ⟨b', off' + i * 5 + 1, none⟩ = some (.int .i64 ny) := fun W h => (hy5 W h).2.1
      have y2 : ∀ W, Fr w1 W → W.cell? ⟨b', off' + i * 5 + 2, none⟩ = some (.string sy) := fun W h => (hy5 W h).2.2.1
      have y3 : ∀ W, Fr w1 W → W.cell? ⟨b', off' + i * 5 + 3, none⟩ = some (.slice cAy cny ccy) := fun W h => (hy5 W h).2.2.2.1
      have y4 : ∀ W, Fr w1 W → W.cell? ⟨b', off' + i * 5 + 4, none⟩ = some (.slice kAy kny kcy) := fun W h => (hy5 W h).2.2.2.2
      have Hw := Lib.hid (fun W (h : Fr w1 W) => HC.out W (hb1.next h))
      simp only [VT.agg] at Hw
      clear hx5 hy5 HC
      refine wp_region_held_drew (S := fun W => Fr w1 W) (by kernel_rfl) (((Fr.refl w1).drewN _).drewN 1) (fun hHeld => ?_)
      refine rg_in 0 rfl (by kernel_rfl) (by kernel_rfl) (by kernel_rfl) (by rfl) (v := ?_) (fun _ _ _ h => h) hHeld (fun w hSw => ?_) ?_
      rotate_left
      · (try dsimp only at hSw); go_simp <;> (with_reducible rfl)
      (try simp only [Act.put, List.setIfInBounds_toArray, List.set_cons_zero, List.set_cons_succ])
      refine rg_in 1 rfl (by kernel_rfl) (by kernel_rfl) (by kernel_rfl) (by rfl) (v := ?_) (fun _ _ _ h => h) hHeld (fun w hSw => ?_) ?_
      rotate_left
      · (try dsimp only at hSw); go_simp <;> (with_reducible rfl)
      (try simp only [Act.put, List.setIfInBounds_toArray, List.set_cons_zero, List.set_cons_succ])
      refine rg_in 2 rfl (by kernel_rfl) (by kernel_rfl) (by kernel_rfl) (by rfl) (v := ?_) (fun _ _ _ h => h) hHeld (fun w hSw => ?_) ?_
      rotate_left
      · (try dsimp only at hSw); go_simp <;> (with_reducible rfl)
      (try simp only [Act.put, List.setIfInBounds_toArray, List.set_cons_zero, List.set_cons_succ])
      refine rg_in 3 rfl (by kernel_rfl) (by kernel_rfl) (by kernel_rfl) (by rfl) (v := ?_) (fun _ _ _ h => h) hHeld (fun w hSw => ?_) ?_
      rotate_left
      · (try dsimp only at hSw); go_simp <;> (with_reducible rfl)
      (try simp only [Act.put, List.setIfInBounds_toArray, List.set_cons_zero, List.set_cons_succ])
      refine rg_in 4 rfl (by kernel_rfl) (by kernel_rfl) (by kernel_rfl) (by rfl) (v := ?_) (fun _ _ _ h => h) hHeld (fun w hSw => ?_) ?_
      rotate_left
      · (try dsimp only at hSw); go_simp <;> (with_reducible rfl)
      (try simp only [Act.put, List.setIfInBounds_toArray, List.set_cons_zero, List.set_cons_succ])
      refine rg_in 5 rfl (by kernel_rfl) (by kernel_rfl) (by kernel_rfl) (by rfl) (v := ?_) (fun _ _ _ h => h) hHeld (fun w hSw => ?_) ?_
      rotate_left
      · (try dsimp only at hSw); go_simp <;> (with_reducible rfl)
      (try simp only [Act.put, List.setIfInBounds_toArray, List.set_cons_zero, List.set_cons_succ])
      refine rg_in 6 rfl (by kernel_rfl) (by kernel_rfl) (by kernel_rfl) (by rfl) (v := ?_) (fun _ _ _ h => h) hHeld (fun w hSw => ?_) ?_
      rotate_left
      · (try dsimp only at hSw); go_simp <;> (with_reducible rfl)
      (try simp only [Act.put, List.setIfInBounds_toArray, List.set_cons_zero, List.set_cons_succ])
      refine rg_in 7 rfl (by kernel_rfl) (by kernel_rfl) (by kernel_rfl) (by rfl) (v := ?_) (fun _ _ _ h => h) hHeld (fun w hSw => ?_) ?_
      rotate_left
      · (try dsimp only at hSw); go_simp <;> (with_reducible rfl)
      (try simp only [Act.put, List.setIfInBounds_toArray, List.set_cons_zero, List.set_cons_succ])
      refine rg_in 8 rfl (by kernel_rfl) (by kernel_rfl) (by kernel_rfl) (by rfl) (v := ?_) (fun _ _ _ h => h) hHeld (fun w hSw => ?_) ?_
      rotate_left
      · (try dsimp only at hSw); go_simp <;> (with_reducible rfl)
      (try simp only [Act.put, List.setIfInBounds_toArray, List.set_cons_zero, List.set_cons_succ])
      refine rg_in 9 rfl (by kernel_rfl) (by kernel_rfl) (by kernel_rfl) (by rfl) (v := ?_) (fun _ _ _ h => h) hHeld (fun w hSw => ?_) ?_
      rotate_left
      · (try dsimp only at hSw); go_simp <;> (with_reducible rfl)
      (try simp only [Act.put, List.setIfInBounds_toArray, List.set_cons_zero, List.set_cons_succ])
      refine rg_in 10 rfl (by kernel_rfl) (by kernel_rfl) (by kernel_rfl) (by rfl) (v := ?_) (fun _ _ _ h => h) hHeld (fun w hSw => ?_) ?_
      rotate_left
      · (try dsimp only at hSw); go_simp <;> (with_reducible rfl)
      (try simp only [Act.put, List.setIfInBounds_toArray, List.set_cons_zero, List.set_cons_succ])
      refine rg_in 11 rfl (by kernel_rfl) (by kernel_rfl) (by kernel_rfl) (by rfl) (v := ?_) (fun _ _ _ h => h) hHeld (fun w hSw => ?_) ?_
      rotate_left
      · (try dsimp only at hSw); go_simp <;> (with_reducible rfl)
      (try simp only [Act.put, List.setIfInBounds_toArray, List.set_cons_zero, List.set_cons_succ])
      refine rg_in 12 rfl (by kernel_rfl) (by kernel_rfl) (by kernel_rfl) (by rfl) (v := ?_) (fun _ _ _ h => h) hHeld (fun w hSw => ?_) ?_
      rotate_left
      · (try dsimp only at hSw); go_simp <;> (with_reducible rfl)
      (try simp only [Act.put, List.setIfInBounds_toArray, List.set_cons_zero, List.set_cons_succ])
      refine rg_in 13 rfl (by kernel_rfl) (by kernel_rfl) (by kernel_rfl) (by rfl) (v := ?_) (fun _ _ _ h => h) hHeld (fun w hSw => ?_) ?_
      rotate_left
      · (try dsimp only at hSw); go_simp <;> (with_reducible rfl)
      (try simp only [Act.put, List.setIfInBounds_toArray, List.set_cons_zero, List.set_cons_succ])
      refine rg_do 14 rfl (by kernel_rfl) (by rfl) (fun K hK => ?_)
      go_simp
      have hH2 : Fr w1 (w1.drewN (nq + 1)) := hHeld
      (go_at_call 33; (with_reducible refine (Hw.out _ hH2).mono ?_); (rintro e w114 ⟨rfl, hb14⟩))
      refine hK.out _ _ (hH2.next hb14) (fun hHeld => ?_)
      clear hK K
      (try simp only [Act.put, List.setIfInBounds_toArray, List.set_cons_zero, List.set_cons_succ])
      refine rg_in 15 rfl (by kernel_rfl) (by kernel_rfl) (by kernel_rfl) (by rfl) (v := ?_) (fun _ _ _ h => h) hHeld (fun w hSw => ?_) ?_
      rotate_left
      · (try dsimp only at hSw); go_simp <;> (with_reducible rfl)
      (try simp only [Act.put, List.setIfInBounds_toArray, List.set_cons_zero, List.set_cons_succ])
      refine wpAnyH_done (by kernel_rfl) ?_ _
      go_wp2
      go_ret
      exact ⟨rfl, hb1.next hHeld⟩
    · rw [show thenI v r = v from if_neg hv]
      go_enter Tryd.func59, Tryd.ntmps59
      go_upto_region 1 with fail
      generalize (w.alloc (.cells #[.int .i64 6, .int .i64 n, .string s, .slice (some ⟨b, off, none⟩) cn cc, .slice (some ⟨b2, off2, none⟩) kn kc, .int .i64 k', .int .i64 n', .string s', .slice (some ⟨b', off', none⟩) cn' cc', .slice (some ⟨b3, off3, none⟩) kn' kc'] 74)) = w1 at *
      obtain ⟨⟨t0, -, -, -, t4⟩, -, -, -, -, u4⟩ := HT.out
      have k2 := hk5 w1 (Fr.refl _)
      have k3 := hl5 w1 (Fr.refl _)
      clear hk5 hl5
      have hfl := fun (j : Nat) => hfl0 (w1.drewN j)
      go_wp2
      go_quiet ((go_at_call 58; exact Calls.quiet_of_same (hfl _)))
      clear hfl hfl0 t0 t4 u4 k2 k3
      go_wp2
      go_ret
      exact ⟨rfl, hb1.drewN _⟩
  · have hb1 := (Fr.refl w).alloc (.cells #[.int .i64 k, .int .i64 n, .string s, .slice cA cn cc, .slice kA kn kc, .int .i64 k', .int .i64 n', .string s', .slice cA' cn' cc', .slice kA' kn' kc'] 74)
    have HT := Lib.hid (Ten.new w (.int .i64 k) (.int .i64 n) (.string s) (.slice cA cn cc) (.slice kA kn kc) (.int .i64 k') (.int .i64 n') (.string s') (.slice cA' cn' cc') (.slice kA' kn' kc') 74 w.heap.size rfl)
    obtain ⟨b, off, rfl, hx5⟩ := kid_cells hs1 hb1.1 hB hx
    obtain ⟨b', off', rfl, hy5⟩ := kid_cells hs1' hb1.1 hB hy
    clear hs1 hs2 hs1' hs2' hx hy h6
    unfold eleV
    rw [if_neg hk6]
    go_enter Tryd.func59, Tryd.ntmps59
    go_upto_region 1 with fail
    generalize (w.alloc (.cells #[.int .i64 k, .int .i64 n, .string s, .slice (some ⟨b, off, none⟩) cn cc, .slice kA kn kc, .int .i64 k', .int .i64 n', .string s', .slice (some ⟨b', off', none⟩) cn' cc', .slice kA' kn' kc'] 74)) = w1 at *
    obtain ⟨⟨t0, -, -, -, -⟩, -⟩ := HT.out
    go_upto_region 5 with fail
    clear t0
    have t3 : ∀ W, Fr w1 W → W.cell? ⟨w.heap.size, 3, none⟩ = some (.slice (some ⟨b, off, none⟩) cn cc) := fun W h => (HT.out.later h.1).1.2.2.2.1
    have u3 : ∀ W, Fr w1 W → W.cell? ⟨w.heap.size, 8, none⟩ = some (.slice (some ⟨b', off', none⟩) cn' cc') := fun W h => (HT.out.later h.1).2.2.2.2.1
    obtain ⟨kx, nx, sx, cAx, cnx, ccx, kAx, knx, kcx, keysx, kidsx⟩ := x
    obtain ⟨ky, ny, sy, cAy, cny, ccy, kAy, kny, kcy, keysy, kidsy⟩ := y
    have x0 : ∀ W, Fr w1 W → W.cell? ⟨b, off + i * 5, none⟩ = some (.int .i64 kx) := fun W h => (hx5 W h).1
    have x1 : ∀ W, Fr w1 W → W.cell? ⟨b, off + i * 5 + 1, none⟩ = some (.int .i64 nx) := fun W h => (hx5 W h).2.1
    have x2 : ∀ W, Fr w1 W → W.cell? ⟨b, off + i * 5 + 2, none⟩ = some (.string sx) := fun W h => (hx5 W h).2.2.1
    have x3 : ∀ W, Fr w1 W → W.cell? ⟨b, off + i * 5 + 3, none⟩ = some (.slice cAx cnx ccx) := fun W h => (hx5 W h).2.2.2.1
    have x4 : ∀ W, Fr w1 W → W.cell? ⟨b, off + i * 5 + 4, none⟩ = some (.slice kAx knx kcx) := fun W h => (hx5 W h).2.2.2.2
    have y0 : ∀ W, Fr w1 W → W.cell? ⟨b', off' + i * 5, none⟩ = some (.int .i64 ky) := fun W h => (hy5 W h).1
    have y1 : ∀ W, Fr w1 W → W.cell? ⟨b', off' + i * 5 + 1, none⟩ = some (.int .i64 ny) := fun W h => (hy5 W h).2.1
    have y2 : ∀ W, Fr w1 W → W.cell? ⟨b', off' + i * 5 + 2, none⟩ = some (.string sy) := fun W h => (hy5 W h).2.2.1
    have y3 : ∀ W, Fr w1 W → W.cell? ⟨b', off' + i * 5 + 3, none⟩ = some (.slice cAy cny ccy) := fun W h => (hy5 W h).2.2.2.1
    have y4 : ∀ W, Fr w1 W → W.cell? ⟨b', off' + i * 5 + 4, none⟩ = some (.slice kAy kny kcy) := fun W h => (hy5 W h).2.2.2.2
    have Hw := Lib.hid (fun W (h : Fr w1 W) => HC.out W (hb1.next h))
    simp only [VT.agg] at Hw
    clear hx5 hy5 HC
    refine wp_region_held_drew (S := fun W => Fr w1 W) (by kernel_rfl) ((Fr.refl w1).drewN 1) (fun hHeld => ?_)
    refine rg_in 0 rfl (by kernel_rfl) (by kernel_rfl) (by kernel_rfl) (by rfl) (v := ?_) (fun _ _ _ h => h) hHeld (fun w hSw => ?_) ?_
    rotate_left
    · (try dsimp only at hSw); go_simp <;> (with_reducible rfl)
    (try simp only [Act.put, List.setIfInBounds_toArray, List.set_cons_zero, List.set_cons_succ])
    refine rg_in 1 rfl (by kernel_rfl) (by kernel_rfl) (by kernel_rfl) (by rfl) (v := ?_) (fun _ _ _ h => h) hHeld (fun w hSw => ?_) ?_
    rotate_left
    · (try dsimp only at hSw); go_simp <;> (with_reducible rfl)
    (try simp only [Act.put, List.setIfInBounds_toArray, List.set_cons_zero, List.set_cons_succ])
    refine rg_in 2 rfl (by kernel_rfl) (by kernel_rfl) (by kernel_rfl) (by rfl) (v := ?_) (fun _ _ _ h => h) hHeld (fun w hSw => ?_) ?_
    rotate_left
    · (try dsimp only at hSw); go_simp <;> (with_reducible rfl)
    (try simp only [Act.put, List.setIfInBounds_toArray, List.set_cons_zero, List.set_cons_succ])
    refine rg_in 3 rfl (by kernel_rfl) (by kernel_rfl) (by kernel_rfl) (by rfl) (v := ?_) (fun _ _ _ h => h) hHeld (fun w hSw => ?_) ?_
    rotate_left
    · (try dsimp only at hSw); go_simp <;> (with_reducible rfl)
    (try simp only [Act.put, List.setIfInBounds_toArray, List.set_cons_zero, List.set_cons_succ])
    refine rg_in 4 rfl (by kernel_rfl) (by kernel_rfl) (by kernel_rfl) (by rfl) (v := ?_) (fun _ _ _ h => h) hHeld (fun w hSw => ?_) ?_
    rotate_left
    · (try dsimp only at hSw); go_simp <;> (with_reducible rfl)
    (try simp only [Act.put, List.setIfInBounds_toArray, List.set_cons_zero, List.set_cons_succ])
    refine rg_in 5 rfl (by kernel_rfl) (by kernel_rfl) (by kernel_rfl) (by rfl) (v := ?_) (fun _ _ _ h => h) hHeld (fun w hSw => ?_) ?_
    rotate_left
    · (try dsimp only at hSw); go_simp <;> (with_reducible rfl)
    (try simp only [Act.put, List.setIfInBounds_toArray, List.set_cons_zero, List.set_cons_succ])
    refine rg_in 6 rfl (by kernel_rfl) (by kernel_rfl) (by kernel_rfl) (by rfl) (v := ?_) (fun _ _ _ h => h) hHeld (fun w hSw => ?_) ?_
    rotate_left
    · (try dsimp only at hSw); go_simp <;> (with_reducible rfl)
    (try simp only [Act.put, List.setIfInBounds_toArray, List.set_cons_zero, List.set_cons_succ])
    refine rg_in 7 rfl (by kernel_rfl) (by kernel_rfl) (by kernel_rfl) (by rfl) (v := ?_) (fun _ _ _ h => h) hHeld (fun w hSw => ?_) ?_
    rotate_left
    · (try dsimp only at hSw); go_simp <;> (with_reducible rfl)
    (try simp only [Act.put, List.setIfInBounds_toArray, List.set_cons_zero, List.set_cons_succ])
    refine rg_in 8 rfl (by kernel_rfl) (by kernel_rfl) (by kernel_rfl) (by rfl) (v := ?_) (fun _ _ _ h => h) hHeld (fun w hSw => ?_) ?_
    rotate_left
    · (try dsimp only at hSw); go_simp <;> (with_reducible rfl)
    (try simp only [Act.put, List.setIfInBounds_toArray, List.set_cons_zero, List.set_cons_succ])
    refine rg_in 9 rfl (by kernel_rfl) (by kernel_rfl) (by kernel_rfl) (by rfl) (v := ?_) (fun _ _ _ h => h) hHeld (fun w hSw => ?_) ?_
    rotate_left
    · (try dsimp only at hSw); go_simp <;> (with_reducible rfl)
    (try simp only [Act.put, List.setIfInBounds_toArray, List.set_cons_zero, List.set_cons_succ])
    refine rg_in 10 rfl (by kernel_rfl) (by kernel_rfl) (by kernel_rfl) (by rfl) (v := ?_) (fun _ _ _ h => h) hHeld (fun w hSw => ?_) ?_
    rotate_left
    · (try dsimp only at hSw); go_simp <;> (with_reducible rfl)
    (try simp only [Act.put, List.setIfInBounds_toArray, List.set_cons_zero, List.set_cons_succ])
    refine rg_in 11 rfl (by kernel_rfl) (by kernel_rfl) (by kernel_rfl) (by rfl) (v := ?_) (fun _ _ _ h => h) hHeld (fun w hSw => ?_) ?_
    rotate_left
    · (try dsimp only at hSw); go_simp <;> (with_reducible rfl)
    (try simp only [Act.put, List.setIfInBounds_toArray, List.set_cons_zero, List.set_cons_succ])
    refine rg_in 12 rfl (by kernel_rfl) (by kernel_rfl) (by kernel_rfl) (by rfl) (v := ?_) (fun _ _ _ h => h) hHeld (fun w hSw => ?_) ?_
    rotate_left
    · (try dsimp only at hSw); go_simp <;> (with_reducible rfl)
    (try simp only [Act.put, List.setIfInBounds_toArray, List.set_cons_zero, List.set_cons_succ])
    refine rg_in 13 rfl (by kernel_rfl) (by kernel_rfl) (by kernel_rfl) (by rfl) (v := ?_) (fun _ _ _ h => h) hHeld (fun w hSw => ?_) ?_
    rotate_left
    · (try dsimp only at hSw); go_simp <;> (with_reducible rfl)
    (try simp only [Act.put, List.setIfInBounds_toArray, List.set_cons_zero, List.set_cons_succ])
    refine rg_do 14 rfl (by kernel_rfl) (by rfl) (fun K hK => ?_)
    go_simp
    (go_at_call 33; (with_reducible refine (Hw.out _ hHeld).mono ?_); (rintro e w114 ⟨rfl, hb14⟩))
    refine hK.out _ _ (hHeld.next hb14) (fun hHeld => ?_)
    clear hK K
    (try simp only [Act.put, List.setIfInBounds_toArray, List.set_cons_zero, List.set_cons_succ])
    refine rg_in 15 rfl (by kernel_rfl) (by kernel_rfl) (by kernel_rfl) (by rfl) (v := ?_) (fun _ _ _ h => h) hHeld (fun w hSw => ?_) ?_
    rotate_left
    · (try dsimp only at hSw); go_simp <;> (with_reducible rfl)
    (try simp only [Act.put, List.setIfInBounds_toArray, List.set_cons_zero, List.set_cons_succ])
    refine wpAnyH_done (by kernel_rfl) ?_ _
    go_wp2
    go_ret
    exact ⟨rfl, hb1.next hHeld⟩
end Go.Proofs.YtndolgbbochpjaaDoor
/-
  Layer 7: run: two values, by what compare says of their kids.
-/
namespace Go.Proofs.YtndolgbbochpjaaDoor
open Go.RowKit
set_option linter.unusedVariables false

theorem rank_same {T U : VT} (hT : T.fit = true) (hU : U.fit = true) (h : rankV T = rankV U) : T.k = U.k ∧ (T.k = 2 → T.n = U.n) := by
  have h1 := fit_kn hT
  have h2 := fit_kn hU
  unfold rankV at h
  split at h <;> split at h <;> (try split at h) <;> (try split at h) <;> (refine ⟨?_, fun _ => ?_⟩ <;> omega)
theorem fit_bare {T : VT} (h : T.fit = true) : (T.k ≠ 2 → T.k ≠ 3 → T.n = 0) ∧ (T.k ≠ 4 → T.s = ⟨#[]⟩) := by
  obtain ⟨k, n, s, cA, cn, cc, kA, kn, kc, keys, kids⟩ := T
  rw [fit_mk] at h
  simp only [Bool.and_eq_true] at h
  obtain ⟨h1, h2, h3, -⟩ := h
  simp only [VT.k, VT.n, VT.s]
  refine ⟨fun a b => ?_, fun a => ?_⟩
  · unfold numB numQ shWide shTop at h2
    have hb : (k == 3) = false := by simpa using b
    rw [hb, if_neg a] at h2
    simp at h2
    omega
  · unfold strB strQ shText at h3
    have hb : (k == 4) = false := by simpa using a
    rw [hb] at h3
    simp at h3
    apply bytes_inj
    rw [h3, ByteArray.toList_eq]
theorem els_none {T : VT} (hT : T.sized) (h : T.k ≠ 5 ∧ T.k ≠ 6) : T.els = [] := by
  apply List.eq_nil_of_length_eq_zero
  rw [els_len hT, hT.2.2.2 (by simp [h.1, h.2])]
  rfl
def runV (f : VT → VT → Int) (T U : VT) : Int := thenI (cmpQ (rankV T) (rankV U)) (thenI (cmpQ T.n U.n) (thenI (vcmp T.s U.s) (lexL (cmpE f) T.els U.els)))
theorem cmpQ_self (a : Int) : cmpQ a a = 0 := cmpQ_is.self a
theorem vcmp_self (a : ByteArray) : vcmp a a = 0 := cmpB_is.self a
theorem thenI_0 (b : Int) : thenI 0 b = b := if_pos rfl
theorem thenI_r0 (b : Int) : thenI b 0 = b := by unfold thenI; split <;> simp_all
theorem run_cases (f : VT → VT → Int) {T U : VT} (hT : T.sized) (hU : U.sized) :
    (rankV T ≠ rankV U ∧ runV f T U = cmpQ (rankV T) (rankV U) ∧ runV f T U ≠ 0) ∨ (rankV T = rankV U ∧ T.k = U.k ∧ ((T.k = 3 ∧ runV f T U = cmpQ T.n U.n) ∨ (T.k = 4 ∧ runV f T U = vcmp T.s U.s) ∨ (T.k ≠ 3 ∧ T.k ≠ 4 ∧ runV f T U = lexL (cmpE f) T.els U.els))) := by
  by_cases h : rankV T = rankV U
  · refine .inr ⟨h, (rank_same hT.1 hU.1 h).1, ?_⟩
    obtain ⟨hk, h2⟩ := rank_same hT.1 hU.1 h
    obtain ⟨a1, a2⟩ := fit_bare hT.1
    obtain ⟨b1, b2⟩ := fit_bare hU.1
    unfold runV
    rw [h, cmpQ_self, thenI_0]
    by_cases h3 : T.k = 3
    · refine .inl ⟨h3, ?_⟩
      rw [a2 (by omega), b2 (by omega), vcmp_self, thenI_0, els_none hT (by omega), els_none hU (by omega)]
      exact thenI_r0 _
    · by_cases h4 : T.k = 4
      · refine .inr (.inl ⟨h4, ?_⟩)
        rw [a1 (by omega) (by omega), b1 (by omega) (by omega), cmpQ_self, thenI_0, els_none hT (by omega), els_none hU (by omega)]
        exact thenI_r0 _
      · refine .inr (.inr ⟨h3, h4, ?_⟩)
        have hn : T.n = U.n := by
          by_cases hh : T.k = 2
          · exact h2 hh
          · rw [a1 hh h3, b1 (by omega) (by omega)]
        rw [hn, cmpQ_self, thenI_0, a2 (by omega), b2 (by omega), vcmp_self, thenI_0]
  · have hne : cmpQ (rankV T) (rankV U) ≠ 0 := fun e => h (cmpQ_zero.1 e)
    have he : runV f T U = cmpQ (rankV T) (rankV U) := if_neg hne
    exact .inl ⟨h, he, by rw [he]; exact hne⟩
set_option maxRecDepth 20000 in
set_option maxHeartbeats 4000000 in
theorem run_any (f : VT → VT → Int) (k n : Int) (s : ByteArray) (cA : Option Addr) (cn cc : Nat) (kA : Option Addr) (kn kc : Nat) (keys : List ByteArray) (kids : List VT)
    (k' n' : Int) (s' : ByteArray) (cA' : Option Addr) (cn' cc' : Nat) (kA' : Option Addr) (kn' kc' : Nat) (keys' : List ByteArray) (kids' : List VT)
    (B : Nat) (w : World) (hL : Lie w B (.mk k n s cA cn cc kA kn kc keys kids)) (hL' : Lie w B (.mk k' n' s' cA' cn' cc' kA' kn' kc' keys' kids')) (hB : B ≤ w.heap.size)
    (hT : (VT.mk k n s cA cn cc kA kn kc keys kids).sized) (hU : (VT.mk k' n' s' cA' cn' cc' kA' kn' kc' keys' kids').sized) (hr : RTab w) (hcn : cn ≤ 1000)
    (hC : ∀ x ∈ kids, ∀ y ∈ kids', ∀ W, Fr w W → Calls Tryd.prog 33 #[x.agg, y.agg] W fun e w' => e = .returned (.int .i64 (f x y)) ∧ Fr W w') :
    Calls Tryd.prog 49 #[.agg #[.int .i64 k, .int .i64 n, .string s, .slice cA cn cc, .slice kA kn kc, .int .i64 k', .int .i64 n', .string s', .slice cA' cn' cc', .slice kA' kn' kc']] w fun e w' =>
      e = .returned (.int .i64 (runV f (.mk k n s cA cn cc kA kn kc keys kids) (.mk k' n' s' cA' cn' cc' kA' kn' kc' keys' kids'))) ∧ Fr w w' := by
  have hb1 := (Fr.refl w).alloc (.cells #[.int .i64 k, .int .i64 n, .string s, .slice cA cn cc, .slice kA kn kc, .int .i64 k', .int .i64 n', .string s', .slice cA' cn' cc', .slice kA' kn' kc'] 74)
  have HT := Lib.hid (Ten.new w (.int .i64 k) (.int .i64 n) (.string s) (.slice cA cn cc) (.slice kA kn kc) (.int .i64 k') (.int .i64 n') (.string s') (.slice cA' cn' cc') (.slice kA' kn' kc') 74 w.heap.size rfl)
  have Hrk1 := Lib.hid (fun W (h : Fr w W) => rank_any (.mk k n s cA cn cc kA kn kc keys kids) W hT.1 (hr.fr h))
  have Hrk2 := Lib.hid (fun W (h : Fr w W) => rank_any (.mk k' n' s' cA' cn' cc' kA' kn' kc' keys' kids') W hU.1 (hr.fr h))
  have Hcs := Lib.hid (run_cases f hT hU)
  have Hel := Lib.hid (fun (i : Nat) x y W (h : Fr w W) (hk : k = k') (hx : kids[i]? = some x) (hy : kids'[i]? = some y) =>
    element_any k n s cA cn cc kA kn kc keys kids k' n' s' cA' cn' cc' kA' kn' kc' keys' kids' i x y (f x y) B W (hL.later (h.1.mono hB)) (hL'.later (h.1.mono hB)) (Nat.le_trans hB h.1.size) hx hy (fun h6 => by
      cases hL with
      | mk a1 a2 _ _ =>
      cases hL' with
      | mk b1 b2 _ _ =>
      have c1 := keys_len a2
      have c2 := keys_len b2
      have d1 := hT.2.1 h6
      have d2 := hU.2.1 (show k' = 6 by omega)
      have e1 := (List.getElem?_eq_some_iff.1 hx).1
      have e2 := (List.getElem?_eq_some_iff.1 hy).1
      simp only [VT.keys, VT.kids] at d1 d2
      omega) (fun W' h' => hC x (List.mem_of_getElem? hx) y (List.mem_of_getElem? hy) W' (h.next h')))
  have Hat := Lib.hid (fun (i : Nat) x y (hk : k = k') (hx : kids[i]? = some x) (hy : kids'[i]? = some y) => (by
    have e1 := els_at hT (show (VT.mk k n s cA cn cc kA kn kc keys kids).kids[i]? = some x from hx)
    have e2 := els_at hU (show (VT.mk k' n' s' cA' cn' cc' kA' kn' kc' keys' kids').kids[i]? = some y from hy)
    rw [lex_step (f := cmpE f) e1 e2]
    congr 1
    unfold cmpE eleV
    simp only [VT.k, VT.keys]
    subst hk
    by_cases h6 : k = 6
    · subst h6; simp
    · simp [h6, vcmp_self, thenI_0] :
    lexL (cmpE f) ((VT.mk k n s cA cn cc kA kn kc keys kids).els.drop i) ((VT.mk k' n' s' cA' cn' cc' kA' kn' kc' keys' kids').els.drop i) = thenI (eleV k (keys.getD i ⟨#[]⟩) (keys'.getD i ⟨#[]⟩) (f x y)) (lexL (cmpE f) ((VT.mk k n s cA cn cc kA kn kc keys kids).els.drop (i + 1)) ((VT.mk k' n' s' cA' cn' cc' kA' kn' kc' keys' kids').els.drop (i + 1)))))
  have Hend := Lib.hid (fun (i : Nat) (h1 : i ≤ cn) (h2 : i ≤ cn') (h3 : i = cn ∨ i = cn') => (by
    cases hL with
    | mk a1 a2 _ _ =>
    cases hL' with
    | mk b1 b2 _ _ =>
    have c1 := kids_len a1
    have c2 := kids_len b1
    have d1 := els_len hT
    have d2 := els_len hU
    simp only [VT.kids] at d1 d2
    rw [lex_end (by omega) (by omega) (by omega), d1, d2, c1, c2] :
    lexL (cmpE f) ((VT.mk k n s cA cn cc kA kn kc keys kids).els.drop i) ((VT.mk k' n' s' cA' cn' cc' kA' kn' kc' keys' kids').els.drop i) = cmpQ cn cn'))
  have Hkid := Lib.hid (fun (i : Nat) (h1 : i < cn) (h2 : i < cn') => (by
    cases hL with
    | mk a1 a2 _ _ =>
    cases hL' with
    | mk b1 b2 _ _ =>
    have c1 := kids_len a1
    have c2 := kids_len b1
    exact ⟨_, _, List.getElem?_eq_getElem (by omega), List.getElem?_eq_getElem (by omega)⟩ : ∃ x y, kids[i]? = some x ∧ kids'[i]? = some y))
  simp only [VT.agg, VT.k, VT.n, VT.s] at Hrk1 Hrk2 Hcs
  generalize (VT.mk k n s cA cn cc kA kn kc keys kids).els = l1 at *
  generalize (VT.mk k' n' s' cA' cn' cc' kA' kn' kc' keys' kids').els = l2 at *
  generalize runV f (VT.mk k n s cA cn cc kA kn kc keys kids) (.mk k' n' s' cA' cn' cc' kA' kn' kc' keys' kids') = r at *
  generalize rankV (VT.mk k n s cA cn cc kA kn kc keys kids) = rT at *
  generalize rankV (VT.mk k' n' s' cA' cn' cc' kA' kn' kc' keys' kids') = rU at *
  have Hcq := Lib.hid (show ∀ W, Calls Tryd.prog 55 #[.int .i64 rT, .int .i64 rU] W fun e w' => e = .returned (.int .i64 (cmpQ rT rU)) ∧ Fr W w' from fun W => (cmpI_any rT rU W).mono (by rintro e w' ⟨rfl, rfl⟩; exact ⟨rfl, Fr.refl _⟩))
  obtain ⟨v, hv⟩ : ∃ v, v = cmpQ rT rU := ⟨_, rfl⟩
  rw [← hv] at Hcq
  have Hv := Lib.hid hv
  clear hv hL hL' hT hU hr hC
  go_enter Tryd.func49, Tryd.ntmps49
  go_upto_region 1 with fail
  go_step3
  go_upto_region 1 with fail
  generalize (w.alloc (.cells #[.int .i64 k, .int .i64 n, .string s, .slice cA cn cc, .slice kA kn kc, .int .i64 k', .int .i64 n', .string s', .slice cA' cn' cc', .slice kA' kn' kc'] 74)) = w1 at *
  have t0 : ∀ W, Fr w1 W → W.cell? ⟨w.heap.size, 0, none⟩ = some (.int .i64 k) := fun W h => (HT.out.later h.1).1.1
  have t1 : ∀ W, Fr w1 W → W.cell? ⟨w.heap.size, 1, none⟩ = some (.int .i64 n) := fun W h => (HT.out.later h.1).1.2.1
  have t2 : ∀ W, Fr w1 W → W.cell? ⟨w.heap.size, 2, none⟩ = some (.string s) := fun W h => (HT.out.later h.1).1.2.2.1
  have t3 : ∀ W, Fr w1 W → W.cell? ⟨w.heap.size, 3, none⟩ = some (.slice cA cn cc) := fun W h => (HT.out.later h.1).1.2.2.2.1
  have t4 : ∀ W, Fr w1 W → W.cell? ⟨w.heap.size, 4, none⟩ = some (.slice kA kn kc) := fun W h => (HT.out.later h.1).1.2.2.2.2
  have u0 : ∀ W, Fr w1 W → W.cell? ⟨w.heap.size, 5, none⟩ = some (.int .i64 k') := fun W h => (HT.out.later h.1).2.1
  have u1 : ∀ W, Fr w1 W → W.cell? ⟨w.heap.size, 6, none⟩ = some (.int .i64 n') := fun W h => (HT.out.later h.1).2.2.1
  have u2 : ∀ W, Fr w1 W → W.cell? ⟨w.heap.size, 7, none⟩ = some (.string s') := fun W h => (HT.out.later h.1).2.2.2.1
  have u3 : ∀ W, Fr w1 W → W.cell? ⟨w.heap.size, 8, none⟩ = some (.slice cA' cn' cc') := fun W h => (HT.out.later h.1).2.2.2.2.1
  have u4 : ∀ W, Fr w1 W → W.cell? ⟨w.heap.size, 9, none⟩ = some (.slice kA' kn' kc') := fun W h => (HT.out.later h.1).2.2.2.2.2
  have Hr1 := Lib.hid (fun W (h : Fr w1 W) => Hrk1.out W (hb1.next h))
  have Hr2 := Lib.hid (fun W (h : Fr w1 W) => Hrk2.out W (hb1.next h))
  clear Hrk1 Hrk2
  refine wp_region_held_drew (S := fun W => Fr w1 W) (by kernel_rfl) ((Fr.refl w1).drewN 1) (fun hHeld => ?_)
  refine rg_in 0 rfl (by kernel_rfl) (by kernel_rfl) (by kernel_rfl) (by rfl) (v := ?_) (fun _ _ _ h => h) hHeld (fun w hSw => ?_) ?_
  rotate_left
  · (try dsimp only at hSw); go_simp <;> (with_reducible rfl)
  (try simp only [Act.put, List.setIfInBounds_toArray, List.set_cons_zero, List.set_cons_succ])
  refine rg_in 1 rfl (by kernel_rfl) (by kernel_rfl) (by kernel_rfl) (by rfl) (v := ?_) (fun _ _ _ h => h) hHeld (fun w hSw => ?_) ?_
  rotate_left
  · (try dsimp only at hSw); go_simp <;> (with_reducible rfl)
  (try simp only [Act.put, List.setIfInBounds_toArray, List.set_cons_zero, List.set_cons_succ])
  refine rg_in 2 rfl (by kernel_rfl) (by kernel_rfl) (by kernel_rfl) (by rfl) (v := ?_) (fun _ _ _ h => h) hHeld (fun w hSw => ?_) ?_
  rotate_left
  · (try dsimp only at hSw); go_simp <;> (with_reducible rfl)
  (try simp only [Act.put, List.setIfInBounds_toArray, List.set_cons_zero, List.set_cons_succ])
  refine rg_in 4 rfl (by kernel_rfl) (by kernel_rfl) (by kernel_rfl) (by rfl) (v := ?_) (fun _ _ _ h => h) hHeld (fun w hSw => ?_) ?_
  rotate_left
  · (try dsimp only at hSw); go_simp <;> (with_reducible rfl)
  (try simp only [Act.put, List.setIfInBounds_toArray, List.set_cons_zero, List.set_cons_succ])
  refine rg_in 5 rfl (by kernel_rfl) (by kernel_rfl) (by kernel_rfl) (by rfl) (v := ?_) (fun _ _ _ h => h) hHeld (fun w hSw => ?_) ?_
  rotate_left
  · (try dsimp only at hSw); go_simp <;> (with_reducible rfl)
  (try simp only [Act.put, List.setIfInBounds_toArray, List.set_cons_zero, List.set_cons_succ])
  refine rg_in 6 rfl (by kernel_rfl) (by kernel_rfl) (by kernel_rfl) (by rfl) (v := ?_) (fun _ _ _ h => h) hHeld (fun w hSw => ?_) ?_
  rotate_left
  · (try dsimp only at hSw); go_simp <;> (with_reducible rfl)
  (try simp only [Act.put, List.setIfInBounds_toArray, List.set_cons_zero, List.set_cons_succ])
  refine rg_do 3 rfl (by kernel_rfl) (by rfl) (fun K hK => ?_)
  go_simp
  (go_at_call 56; (with_reducible refine (Hr1.out _ hHeld).mono ?_); (rintro e w103 ⟨rfl, hb3⟩))
  refine hK.out _ _ (hHeld.next hb3) (fun hHeld => ?_)
  clear hK K
  (try simp only [Act.put, List.setIfInBounds_toArray, List.set_cons_zero, List.set_cons_succ])
  refine rg_do 7 rfl (by kernel_rfl) (by rfl) (fun K hK => ?_)
  go_simp
  (go_at_call 56; (with_reducible refine (Hr2.out _ hHeld).mono ?_); (rintro e w107 ⟨rfl, hb7⟩))
  refine hK.out _ _ (hHeld.next hb7) (fun hHeld => ?_)
  clear hK K
  (try simp only [Act.put, List.setIfInBounds_toArray, List.set_cons_zero, List.set_cons_succ])
  refine rg_do 8 rfl (by kernel_rfl) (by rfl) (fun K hK => ?_)
  go_simp
  (go_at_call 55; (with_reducible refine (Hcq.out _).mono ?_); (rintro e w108 ⟨rfl, hb8⟩))
  refine hK.out _ _ (hHeld.next hb8) (fun hHeld => ?_)
  clear hK K
  (try simp only [Act.put, List.setIfInBounds_toArray, List.set_cons_zero, List.set_cons_succ])
  refine rg_in 9 rfl (by kernel_rfl) (by kernel_rfl) (by kernel_rfl) (by rfl) (v := ?_) (fun _ _ _ h => h) hHeld (fun w hSw => ?_) ?_
  rotate_left
  · (try dsimp only at hSw); go_simp <;> (with_reducible rfl)
  (try simp only [Act.put, List.setIfInBounds_toArray, List.set_cons_zero, List.set_cons_succ])
  refine wpAnyH_done (by kernel_rfl) ?_ _
  have hb2 := hb1.next hHeld
  have HT2 := Lib.hid (HT.out.later hHeld.1)
  clear t0 t1 t2 t3 t4 u0 u1 u2 u3 u4 Hr1 Hr2 Hcq
  rcases Hcs.out with ⟨hne, he, hr0⟩ | ⟨heq, hkk, hcase⟩
  · rw [← Hv.out] at he
    subst he
    go_wp2
    rw [Exit.noGoto_ret]
    go_ret
    exact ⟨rfl, hb2⟩
  · have hv0 : v = 0 := by rw [Hv.out, heq]; exact cmpQ_self _
    subst hv0
    subst hkk
    have Hcase := Lib.hid hcase
    clear hcase heq Hcs Hv
    obtain ⟨⟨t0, t1, t2, t3, t4⟩, u0, u1, u2, u3, u4⟩ := HT2.out
    rcases Hcase.out with ⟨rfl, rfl⟩ | ⟨rfl, rfl⟩ | ⟨h3, h4, hr3⟩
    · have hc := cmpJ_any n n' w108
      go_wp2_with fail
      refine hc.mono ?_
      rintro e w3 ⟨rfl, rfl⟩
      go_wp2
      rw [Exit.noGoto_ret]
      go_ret
      exact ⟨rfl, hb2⟩
    · have hc := vcompare_any s s' w108
      go_wp2_with fail
      refine hc.mono ?_
      rintro e w3 ⟨rfl, rfl⟩
      go_wp2
      rw [Exit.noGoto_ret]
      go_ret
      exact ⟨rfl, hb2⟩
    · obtain ⟨m, hm⟩ : ∃ m, m = min cn cn' := ⟨_, rfl⟩
      have hsd := shared_any (.int .i64 k) (.int .i64 n) (.string s) (.slice kA kn kc) (.int .i64 k) (.int .i64 n') (.string s') (.slice kA' kn' kc') cA cA' cn cc cn' cc' w108
      rw [← hm] at hsd
      have h3' : (k = 3) = False := by simp [h3]
      have h4' : (k = 4) = False := by simp [h4]
      have HM := Lib.hid hm
      have hm1000 : m ≤ 1000 := by omega
      have HR := Lib.hid hr3
      clear hm hr3 Hcase
      go_wp2_with fail
      go_step3
      clear h3' h4' h3 h4
      go_wp2_with fail
      refine hsd.mono ?_
      rintro e w5 ⟨rfl, hb5⟩
      clear hsd t0 t1 t2 t3 t4 u0 u1 u2 u3 u4
      have hb6 := hb2.next hb5
      have HT5 := Lib.hid (HT2.out.later hb5.1)
      clear HT2 HT
      go_upto_block 1 with fail
      go_cut [5] (fun s wx => ∃ v, s = .int .i64 v ∧ Hid ((v ≠ 0 ∧ lexL (cmpE f) l1 l2 = v) ∨ (v = 0 ∧ lexL (cmpE f) l1 l2 = cmpQ cn cn')) ∧ Fr w5 wx)
      case first =>
        go_wp2_with fail
        go_loopw [5, 50] (fun x i wr => ∃ j : Nat, j ≤ m ∧ x = .int .i64 0 ∧ i = .int .i64 j ∧ Hid (lexL (cmpE f) l1 l2 = lexL (cmpE f) (l1.drop j) (l2.drop j)) ∧ Fr w5 wr) (fun _ i _ => m - (intOf i).toNat)
        case atStart => exact ⟨0, Nat.zero_le _, rfl, rfl, Lib.hid rfl, Fr.refl _⟩
        case round =>
          obtain ⟨j, hj, rfl, rfl, HJ, hbr⟩ := hrel
          by_cases hlt : j < m
          · obtain ⟨x, y, hx, hy⟩ := Hkid.out j (by have := HM.out; omega) (by have := HM.out; omega)
            have hel := Hel.out j x y wr (hb6.next hbr) trivial hx hy
            have Hst := Lib.hid (HJ.out.trans (Hat.out j x y trivial hx hy))
            have hlt' : (j : Int) < (m : Int) := by omega
            generalize eleV k (keys.getD j ⟨#[]⟩) (keys'.getD j ⟨#[]⟩) (f x y) = v at *
            clear hx hy
            by_cases hv : v = 0
            · subst hv
              have HJ' := Lib.hid (Hst.out.trans (thenI_0 _))
              clear HJ Hst
              go_wp2_with fail
              refine hel.mono ?_
              rintro e w8 ⟨rfl, hb8⟩
              clear hel
              go_wp2
              go_roundw
              case rel => exact ⟨j + 1, by omega, rfl, by go_num, HJ', hbr.next hb8⟩
              case measure => simp [intOf]; omega
            · have He := Lib.hid (Hst.out.trans (show thenI v _ = v from if_neg hv))
              have hv' : (v = 0) = False := by simp [hv]
              clear HJ Hst
              go_wp2_with fail
              refine hel.mono ?_
              rintro e w8 ⟨rfl, hb8⟩
              clear hel
              go_wp2
              go_meet
              case rel => exact ⟨v, rfl, Lib.hid (.inl ⟨hv, He.out⟩), hbr.next hb8⟩
          · obtain rfl : j = m := by omega
            have He := Lib.hid (HJ.out.trans (Hend.out j (by have := HM.out; omega) (by have := HM.out; omega) (by have := HM.out; omega)))
            clear HJ
            go_wp2
            go_meet
            case rel => exact ⟨0, rfl, Lib.hid (.inr ⟨rfl, He.out⟩), hbr⟩
      case rest =>
        obtain ⟨v, rfl, Hz, hbc⟩ := hcut
        rename World => w7
        rcases Hz.out with ⟨hv, he⟩ | ⟨rfl, he⟩
        · have He := Lib.hid (HR.out.trans he)
          have hv' : (v = 0) = False := by simp [hv]
          clear he Hz HR
          go_wp2
          rw [Exit.noGoto_ret]
          go_ret
          exact ⟨by rw [He.out]; rfl, hb6.next hbc⟩
        · have He := Lib.hid (HR.out.trans he)
          have hc := cmpI_any cn cn' w7
          obtain ⟨⟨t0, t1, t2, t3, t4⟩, u0, u1, u2, u3, u4⟩ := HT5.out.later hbc.1
          clear he Hz HR
          go_wp2_with fail
          refine hc.mono ?_
          rintro e w8 ⟨rfl, rfl⟩
          go_wp2
          rw [Exit.noGoto_ret]
          go_ret
          exact ⟨by rw [He.out]; rfl, hb6.next hbc⟩
end Go.Proofs.YtndolgbbochpjaaDoor
/-
  Layer 7: compare at any two values that may be.
-/
namespace Go.Proofs.YtndolgbbochpjaaDoor
open Go.RowKit
set_option linter.unusedVariables false

theorem ok_few {B : Nat} {w : World} {k n : Int} {s : ByteArray} {cA : Option Addr} {cn cc : Nat} {kA : Option Addr} {kn kc : Nat} {keys : List ByteArray} {kids : List VT} (hL : Lie w B (.mk k n s cA cn cc kA kn kc keys kids)) (h : (VT.mk k n s cA cn cc kA kn kc keys kids).ok = true) : cn ≤ 256 := by
  unfold VT.ok at h
  simp only [Bool.and_eq_true, decide_eq_true_eq] at h
  have h1 := h.2.1
  rw [cnt_mk] at h1
  cases hL with
  | mk a1 a2 _ _ =>
  have c1 := kids_len a1
  have : ∀ l : List VT, l.length ≤ (l.map VT.cnt).sum := by
    intro l
    induction l with
    | nil => simp
    | cons x l ih =>
      have : 1 ≤ x.cnt := by obtain ⟨a, b, c, d, e, f, g, h, i, j, k⟩ := x; rw [cnt_mk]; omega
      simp only [List.map_cons, List.sum_cons, List.length_cons]; omega
  have := this kids
  omega
theorem Szd.sized {T : VT} (h : T.Szd) : T.sized := by cases h; assumption
set_option maxRecDepth 20000 in
theorem compare_step (f : VT → VT → Int) (T U : VT) (B : Nat) (w : World) (hL : Lie w B T) (hL' : Lie w B U) (h1 : T.ok = true) (h2 : U.ok = true) (hB : B ≤ w.heap.size) (hr : RTab w)
    (hC : ∀ x ∈ T.kids, ∀ y ∈ U.kids, ∀ W, Fr w W → Calls Tryd.prog 33 #[x.agg, y.agg] W fun e w' => e = .returned (.int .i64 (f x y)) ∧ Fr W w') :
    Calls Tryd.prog 33 #[T.agg, U.agg] w fun e w' => e = .returned (.int .i64 (runV f T U)) ∧ Fr w w' := by
  have hT := Szd.sized (ok_szd hL h1)
  have hU := Szd.sized (ok_szd hL' h2)
  obtain ⟨k, n, s, cA, cn, cc, kA, kn, kc, keys, kids⟩ := T
  obtain ⟨k', n', s', cA', cn', cc', kA', kn', kc', keys', kids'⟩ := U
  have hb := ((Fr.refl w).alloc (.cells #[.int .i64 k, .int .i64 n, .string s, .slice cA cn cc, .slice kA kn kc] 25)).alloc (.cells #[.int .i64 k', .int .i64 n', .string s', .slice cA' cn' cc', .slice kA' kn' kc'] 25)
  have HV := (VFive.new w (.int .i64 k) (.int .i64 n) (.string s) (.slice cA cn cc) (.slice kA kn kc) 25 w.heap.size rfl).alloc (.cells #[.int .i64 k', .int .i64 n', .string s', .slice cA' cn' cc', .slice kA' kn' kc'] 25)
  have HU := VFive.new (w.alloc (.cells #[.int .i64 k, .int .i64 n, .string s, .slice cA cn cc, .slice kA kn kc] 25)) (.int .i64 k') (.int .i64 n') (.string s') (.slice cA' cn' cc') (.slice kA' kn' kc') 25 (w.heap.size + 1) (World.size_alloc _ _)
  have hrun := run_any f k n s cA cn cc kA kn kc keys kids k' n' s' cA' cn' cc' kA' kn' kc' keys' kids' B _ (hL.later (hb.1.mono hB)) (hL'.later (hb.1.mono hB)) (Nat.le_trans hB hb.1.size) hT hU (hr.fr hb) (by have := ok_few hL h1; omega) (fun x hx y hy W hW => hC x hx y hy W (hb.next hW))
  simp only [VT.agg]
  generalize runV f (VT.mk k n s cA cn cc kA kn kc keys kids) (.mk k' n' s' cA' cn' cc' kA' kn' kc' keys' kids') = r at *
  clear hL hL' h1 h2 hr hC hT hU
  obtain ⟨⟨v0, v1, v2, v3, v4⟩, -⟩ := HV
  obtain ⟨⟨y0, y1, y2, y3, y4⟩, -⟩ := HU
  go_enter Tryd.func33, Tryd.ntmps33
  go_wp2_with fail
  refine hrun.mono ?_
  rintro e w1 ⟨rfl, hb1⟩
  go_wp2
  go_ret
  exact ⟨rfl, hb.next hb1⟩
theorem compare_any : ∀ (d : Nat) (T U : VT) (B : Nat) (w : World), Lie w B T → Lie w B U → T.ok = true → U.ok = true → T.dep ≤ d → B ≤ w.heap.size → RTab w →
    Calls Tryd.prog 33 #[T.agg, U.agg] w fun e w' => e = .returned (.int .i64 (cmpF (d + 1) T U)) ∧ Fr w w' := by
  intro d
  induction d with
  | zero =>
    intro T U B w hL hL' h1 h2 hd hB hr
    refine compare_step (cmpF 0) T U B w hL hL' h1 h2 hB hr ?_
    intro x hx
    exfalso
    have hT := Szd.sized (ok_szd hL h1)
    have := dep_kid (by
      cases h5 : (T.k == 5 || T.k == 6) with
      | true => rfl
      | false => rw [hT.2.2.2 h5] at hx; cases hx) hx
    omega
  | succ d ih =>
    intro T U B w hL hL' h1 h2 hd hB hr
    refine compare_step (cmpF (d + 1)) T U B w hL hL' h1 h2 hB hr ?_
    intro x hx y hy W hW
    have hT := Szd.sized (ok_szd hL h1)
    have := dep_kid (by
      cases h5 : (T.k == 5 || T.k == 6) with
      | true => rfl
      | false => rw [hT.2.2.2 h5] at hx; cases hx) hx
    exact ih x y B W ((lie_kid hL hx).later (hW.1.mono hB)) ((lie_kid hL' hy).later (hW.1.mono hB)) (ok_kid h1 hx) (ok_kid h2 hy) (by omega) (Nat.le_trans hB hW.1.size) (hr.fr hW)
theorem compareV_any (T U : VT) (B : Nat) (w : World) (hL : Lie w B T) (hL' : Lie w B U) (h1 : T.ok = true) (h2 : U.ok = true) (hB : B ≤ w.heap.size) (hr : RTab w) :
    Calls Tryd.prog 33 #[T.agg, U.agg] w fun e w' => e = .returned (.int .i64 (cmpV T U)) ∧ Fr w w' :=
  compare_any 8 T U B w hL hL' h1 h2 (by have := h1; unfold VT.ok at this; simp only [Bool.and_eq_true, decide_eq_true_eq] at this; exact this.1) hB hr
end Go.Proofs.YtndolgbbochpjaaDoor
/-
  Layer 7: slices.SortStableFunc by compare, at 20 values or fewer.
-/
namespace Go.Proofs.YtndolgbbochpjaaDoor
open Go.RowKit
open Go.Sort (grow flatK get_flatK size_flatK HoldsK putRowK putRow mapBlock alloc_eq_grow grow_grow)
set_option linter.unusedVariables false

theorem nil_ok : (scV 1 0 ⟨#[]⟩).ok = true := by
  refine sc_ok _ _ _ (by decide) ?_
  unfold scV
  rw [fit_mk, strB_nil]
  decide
/-- Values that lie and may be. -/
abbrev Val (w : World) (B : Nat) : Type := {T : VT // Lie w B T ∧ T.ok = true}
instance {w : World} {B : Nat} : Inhabited (Val w B) := ⟨⟨scV 1 0 ⟨#[]⟩, lie_sc _ _ _ _ _ (by decide) (by decide) (by decide), nil_ok⟩⟩
def encV {w : World} {B : Nat} (x : Val w B) : List Value := x.1.cells
def cfV {w : World} {B : Nat} (x y : Val w B) : Int := cmpV x.1 y.1
theorem encV_len {w : World} {B : Nat} (x : Val w B) : (encV x).length = 5 := VT.cells_len _
theorem swoV {w : World} {B : Nat} : Sort.SWO (ltOf (cfV (w := w) (B := B))) := by
  have hc := cmpV_is
  refine ⟨fun x => ?_, fun x y z h g => ?_, fun x y z h g => ?_⟩
  · unfold ltOf cfV
    rw [hc.self]
    rfl
  · unfold ltOf cfV at *
    simp only [decide_eq_true_eq] at *
    have := hc.tr x.1 y.1 z.1 (by omega) (by omega)
    rcases hc.ones x.1 z.1 with h1 | h1 | h1 <;> omega
  · unfold ltOf cfV at *
    simp only [decide_eq_false_iff_not, Int.not_lt] at *
    have h1 := hc.turn x.1 y.1
    have h2 := hc.turn y.1 z.1
    have h3 := hc.turn x.1 z.1
    have := hc.tr z.1 y.1 x.1 (by omega) (by omega)
    omega
def Held (W : World) (g : Nat) (L : List VT) : Prop := ∀ t u, (L.flatMap VT.cells)[t]? = some u → W.cell? ⟨g, t, none⟩ = some u ∧ W.frozen? ⟨g, t, none⟩ = false
theorem flatV_at {w : World} {B : Nat} {L : List (Val w B)} {a : Array (Val w B)} (ha : a.toList = L) {t : Nat} (ht : t < L.length * 5) : ((L.map Subtype.val).flatMap VT.cells)[t]? = some ((flatK encV 5 a)[t]!) := by
  have hs : a.size = L.length := by rw [← ha]; simp
  rw [get_flatK encV 5 a t (by rw [hs]; exact ht)]
  have hi : t / 5 < L.length := by omega
  have e : t = t / 5 * 5 + t % 5 := by omega
  have h5 : t % 5 < 5 := Nat.mod_lt _ (by decide)
  conv => lhs; rw [e]
  rw [vflat_get (L.map Subtype.val) (t / 5) (t % 5) (by rw [List.length_map]; exact hi) h5]
  have hg : a[t / 5]! = L[t / 5] := by subst ha; rw [getElem!_pos a _ (by simpa using hi)]; simp
  have hl : t % 5 < (encV (L[t / 5])).length := by rw [encV_len]; exact h5
  rw [hg, getElem!_pos (encV L[t / 5]) (t % 5) hl]
  rw [List.getElem_map]
  exact List.getElem?_eq_getElem hl
theorem held_to {w W : World} {B g : Nat} {L : List (Val w B)} (h : Held W g (L.map Subtype.val)) : HoldsK encV 5 W g 0 L.toArray := by
  intro t ht
  rw [size_flatK] at ht
  have ht' : t < L.length * 5 := by simpa using ht
  rw [Nat.zero_add]
  exact h t _ (flatV_at (by simp) ht')
theorem held_of {w W : World} {B g : Nat} {a : Array (Val w B)} (h : HoldsK encV 5 W g 0 a) : Held W g (a.toList.map Subtype.val) := by
  intro t u hu
  have hj : t < a.toList.length * 5 := by
    have := (List.getElem?_eq_some_iff.1 hu).1
    rw [vflat_len, List.length_map] at this
    exact this
  have h0 := h t (by rw [size_flatK]; simpa using hj)
  rw [flatV_at rfl hj] at hu
  injection hu with hu
  rw [Nat.zero_add, hu] at h0
  exact h0
theorem below_sortedV {w W : World} {B g m b : Nat} (hg : b ≤ g) (hgs : g < W.heap.size) (a : Array (Val w B)) (os : Array Obj) : Below b W (sortWorldK encV 5 W g 0 m a os) ∧ W.drawn ≤ (sortWorldK encV 5 W g 0 m a os).drawn := by
  have hsz : (sortWorldK encV 5 W g 0 m a os).heap.size = W.heap.size + os.size := by simp [sortWorldK, grow, putRowK, putRow, mapBlock, Sort.ahead]
  refine ⟨⟨rfl, rfl, rfl, by omega, fun k hk => ?_⟩, by simp [sortWorldK, grow, putRowK, putRow, mapBlock, Sort.ahead]⟩
  show ((W.heap.modify g _) ++ os)[k]? = _
  rw [Array.getElem?_append_left (by simp; omega), Array.getElem?_modify, if_neg (by omega)]
theorem cmpLaysV {W : World} {B g size : Nat} (hBg : B ≤ g) (hgs : g < W.heap.size) (hB : B ≤ W.heap.size) (hr : RTab W) (hrB : 0 < B) : CmpLays Tryd.prog 33 #[] (encV (w := W) (B := B)) 5 cfV g 0 size W := by
  intro m os dk hs x y
  obtain ⟨hb, hd⟩ := below_sortedV (m := m) hBg hgs dk os (W := W)
  have hc := compareV_any x.1 y.1 B _ (x.2.1.later hb) (y.2.1.later hb) x.2.2 y.2.2 (Nat.le_trans hB hb.size) (hr.below hb hrB)
  have e1 : ∀ z : Val W B, Value.agg (encV z).toArray = z.1.agg := by
    intro z
    unfold encV
    obtain ⟨⟨a, b, c, d, e, f, g, h, i, j, k⟩, hz⟩ := z
    rfl
  show Calls Tryd.prog _ #[Value.agg (encV x).toArray, Value.agg (encV y).toArray] _ _
  rw [e1, e1]
  refine hc.mono ?_
  rintro e w' ⟨rfl, hf⟩
  exact ⟨rfl, hf.grow⟩
/-- One after another, none before the one ahead of it. -/
def Rise (L : List VT) : Prop := L.Pairwise fun x y => cmpV x y ≤ 0
set_option maxRecDepth 20000 in
theorem ins_none (A : Option Addr) (n c a : Nat) (fv : Value) (w : World) (ha : a ≤ 1000) : Calls Tryd.prog 61 #[.slice A n c, .int .i64 a, .int .i64 a, fv] w fun e w' => e = .returned (.tuple #[]) ∧ w' = w := by
  have h1 : IntKind.i64.wrap ((a : Int) + 1) = ((a + 1 : Nat) : Int) := by rw [IntKind.wrap_i64]; omega
  have h2 : (((a + 1 : Nat) : Int) < (a : Int)) = False := by simp; omega
  go_enter Tryd.func61, Tryd.ntmps61
  go_wp2
  go_loop [8] (fun i => i = .int .i64 ((a + 1 : Nat) : Int)) (fun i => 0)
  case atStart => go_num
  case round =>
    subst hrel
    go_wp2
    go_end0
    exact ⟨rfl, rfl⟩
set_option maxRecDepth 20000 in
theorem ins_any (g n c : Nat) (L : List VT) (B a b : Nat) (W : World) (h : Held W g L) (hl : L.length = n) (hB : B ≤ W.heap.size) (hBg : B ≤ g) (hg : g < W.heap.size) (hn : n ≤ 20) (hab : a ≤ b) (hbn : b ≤ n) (hL : ∀ x ∈ L, Lie W B x ∧ x.ok = true) (hr : RTab W)
    (hrB : 0 < B) :
    Calls Tryd.prog 61 #[.slice (some ⟨g, 0, none⟩) n c, .int .i64 a, .int .i64 b, .func (.func 33) #[] #[]] W fun e w' => e = .returned (.tuple #[]) ∧
      ∃ L2, Held w' g L2 ∧ Below g W w' ∧ W.drawn ≤ w'.drawn ∧ L2.Perm L ∧ (a = 0 → b = n → Rise L2) ∧ (a = b → L2 = L) := by
  obtain ⟨M, rfl⟩ : ∃ M : List (Val W B), M.map Subtype.val = L := ⟨L.pmap (fun x h => ⟨x, h⟩) hL, by rw [List.map_pmap]; simp⟩
  have hm : M.length = n := by simpa using hl
  have hz : M.toArray.size = n := by simpa using hm
  have eg : ∀ args w, (callFunc 33 args).run Tryd.prog w = .ok (.enter 33 args) w := enters_of Tryd.func33 (by kernel_rfl) rfl
  have hcon := AnyQ.insertionSortCmpFunc Tryd.insV 5 (by intro w; rfl) (by intro w; rfl) encV encV_len (fun x v hv => cells_one x.1 v hv) cfV 33 #[] g 0 c a b M.toArray W eg (cmpLaysV hBg hg hB hr hrB) (held_to h) hg hab (by omega) (by omega)
  rw [hz] at hcon
  have hs := Sort.insertionSort_holds (lt := ltOf (cfV (w := W) (B := B))) swoV M.toArray a b hab (by omega)
  have hab2 : a = b → Sort.insertionSort (ltOf (cfV (w := W) (B := B))) M.toArray a b = M.toArray := by
    rintro rfl
    unfold Sort.insertionSort
    rw [Sort.insOuter, if_neg (by omega)]
  generalize Sort.insertionSort (ltOf (cfV (w := W) (B := B))) M.toArray a b = d at *
  refine hcon.mono ?_
  rintro e w' ⟨rfl, m, os, rfl⟩
  obtain ⟨⟨p1, p2, p3⟩, hso⟩ := hs
  obtain ⟨q1, q2⟩ := below_sortedV (m := m) (Nat.le_refl g) hg d os (W := W)
  refine ⟨rfl, d.toList.map Subtype.val, held_of (holdsK_sortWorldK_c encV 5 W g 0 M.toArray d m os (held_to h) hg p1), q1, q2, ?_, ?_, ?_⟩
  · apply List.Perm.map
    obtain ⟨r1, -, r3⟩ := Sort.permIn_mono M.toArray d a b 0 M.toArray.size (Nat.zero_le _) (by omega) (Nat.le_refl _) ⟨p1, p2, p3⟩
    have e1 : d.extract 0 M.toArray.size = d := by rw [← r1]; exact Array.extract_size
    have e2 : M.toArray.extract 0 M.toArray.size = M.toArray := Array.extract_size
    rw [e1, e2] at r3
    exact r3
  · rintro rfl rfl
    unfold Rise
    rw [List.pairwise_map, List.pairwise_iff_getElem]
    intro i j hi hj hij
    have := hso i j (Nat.zero_le _) hij (by have := p1; simp at hj; omega)
    rw [getElem!_pos d j (by simpa using hj), getElem!_pos d i (by simpa using hi)] at this
    unfold ltOf cfV at this
    simp only [decide_eq_false_iff_not, Int.not_lt] at this
    have ht := cmpV_is.turn d[i].1 d[j].1
    simp only [Array.getElem_toList]
    omega
  · intro e
    rw [hab2 e]
end Go.Proofs.YtndolgbbochpjaaDoor
