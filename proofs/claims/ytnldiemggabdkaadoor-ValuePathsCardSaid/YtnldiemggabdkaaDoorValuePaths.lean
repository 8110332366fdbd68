/-
  ValuePaths: descending along one path and then another is descending along both joined: the walk.
-/
import Derived.Test.YtnldiemggabdkaaDoorValD
import Derived.Test.YtnldiemggabdkaaDoorRg
namespace Go.Proofs.YtnldiemggabdkaaDoor
open Go.RowKit
set_option linter.unusedVariables false

theorem pathR_append : ∀ (a b : List ByteArray) (T : VT), pathR T (a ++ b) = (pathR T a).bind fun K => pathR K b
  | [], b, T => rfl
  | x :: a, b, T => by
    rw [List.cons_append, pathR, pathR]
    cases T.get x with
    | none => rfl
    | some K => exact pathR_append a b K
theorem get_dep {T K : VT} {x : ByteArray} (h : T.get x = some K) : K.dep + 1 ≤ T.dep := by
  have hm := get_mem h
  obtain ⟨k, n, s, cA, cn, cc, kA, kn, kc, keys, kids⟩ := T
  have h6 : k = 6 := by
    unfold VT.get at h
    split at h
    · assumption
    · cases h
  subst h6
  rw [dep_mk]
  have := maxL_le (List.mem_map_of_mem (f := VT.dep) (show K ∈ kids from hm))
  have e : hN ((6 : Int) == 5 || (6 : Int) == 6) = 1 := rfl
  omega
theorem path_ok : ∀ (p : List ByteArray) {T X : VT}, T.ok = true → pathR T p = some X → X.ok = true ∧ X.dep + p.length ≤ T.dep
  | [], T, X, h, e => by injection e with e; subst e; exact ⟨h, Nat.le_refl _⟩
  | x :: p, T, X, h, e => by
    rw [pathR] at e
    cases hg : T.get x with
    | none => rw [hg] at e; cases e
    | some K =>
      rw [hg] at e
      obtain ⟨h1, h2⟩ := path_ok p (ok_kid h (get_mem hg)) e
      have := get_dep hg
      exact ⟨h1, by rw [List.length_cons]; omega⟩
theorem lie_path {w : World} {B : Nat} : ∀ (p : List ByteArray) {T X : VT}, Lie w B T → pathR T p = some X → Lie w B X
  | [], T, X, h, e => by injection e with e; subst e; exact h
  | x :: p, T, X, h, e => by
    rw [pathR] at e
    cases hg : T.get x with
    | none => rw [hg] at e; cases e
    | some K => rw [hg] at e; exact lie_path p (lie_kid h (get_mem hg)) e
/-- What a call tells, or nothing. -/
def orZ (r : Option VT) : VT := r.getD (scV 0 0 ⟨#[]⟩)
theorem memR_or (r : Option VT) : memR r = .tuple #[(orZ r).agg, .bool r.isSome] := by cases r <;> rfl
theorem lie_orZ {w : World} {B : Nat} {r : Option VT} (h : ∀ X, r = some X → Lie w B X) : Lie w B (orZ r) := by
  cases r with
  | none => exact lie_sc 0 0 _ _ _ (by decide) (by decide) (by decide)
  | some X => exact h X rfl
theorem five_of_blk {W : World} {g : Nat} {a b c d e : Value} {t : TypeId} (h : W.heap[g]? = some (.cells #[a, b, c, d, e] t)) : VFive W g a b c d e :=
  ⟨⟨(cell_of_row W g 0 _ t (0, 0) h).trans rfl, (cell_of_row W g 1 _ t (0, 0) h).trans rfl, (cell_of_row W g 2 _ t (0, 0) h).trans rfl, (cell_of_row W g 3 _ t (0, 0) h).trans rfl, (cell_of_row W g 4 _ t (0, 0) h).trans rfl⟩,
    ⟨frozen_of_row W g 0 _ t h, frozen_of_row W g 1 _ t h, frozen_of_row W g 2 _ t h, frozen_of_row W g 3 _ t h, frozen_of_row W g 4 _ t h⟩⟩
theorem str_one (l : List ByteArray) : ∀ u ∈ l.map Value.string, u.oneCell' = true := by
  intro u hu
  obtain ⟨x, _, rfl⟩ := List.mem_map.1 hu
  rfl
/-- What a Path tells along p, or nothing. -/
def pathO (T : VT) (p : List ByteArray) : Option VT := if T.ok = true then pathR T p else none
theorem zer_no : (scV 0 0 ⟨#[]⟩).ok = false := z_ok
theorem pathO_two (T : VT) (a b : List ByteArray) : pathO T (a ++ b) = (pathO T a).bind fun K => pathO K b := by
  unfold pathO
  split
  · rename_i h
    rw [pathR_append]
    cases e : pathR T a with
    | none => rfl
    | some K => simp [(path_ok a h e).1]
  · rfl
theorem pathO_ok {T X : VT} {p : List ByteArray} (h : pathO T p = some X) : T.ok = true ∧ X.ok = true ∧ X.dep + p.length ≤ T.dep := by
  unfold pathO at h
  split at h
  · rename_i hk; exact ⟨hk, path_ok p hk h⟩
  · cases h
theorem lie_pathO {w : World} {B : Nat} {T X : VT} {p : List ByteArray} (hL : Lie w B T) (h : pathO T p = some X) : Lie w B X := by
  unfold pathO at h
  split at h
  · exact lie_path p hL h
  · cases h
theorem path_O (B : Nat) (w : World) (T : VT) (A : Option Addr) (m c : Nat) (path : List ByteArray) (B2 : Nat) (hL : Lie w B T) (hB : B ≤ w.heap.size) (hS : Shows w B2 1 A m (path.map Value.string)) (hB2 : B2 ≤ w.heap.size) (hm : m ≤ maxLen) (htab : UTab w) (hst : STab w) :
    Calls Tryd.prog 24 #[T.agg, .slice A m c] w fun e w' => e = .returned (.tuple #[(orZ (pathO T path)).agg, .bool (pathO T path).isSome]) ∧ Below w.heap.size w w' := by
  rw [← memR_or]
  exact path_any B w T A m c path B2 hL hB hS hB2 hm htab hst

set_option maxRecDepth 20000 in
set_option maxHeartbeats 4000000 in
theorem vpaths_any (w : World) (T : VT) (A1 : Option Addr) (n1 c1 : Nat) (l1 : List ByteArray) (A2 : Option Addr) (n2 c2 : Nat) (l2 : List ByteArray) (B : Nat) (hL : Lie w B T) (hB : B ≤ w.heap.size)
    (h1 : Shows w B 1 A1 n1 (l1.map Value.string)) (h2 : Shows w B 1 A2 n2 (l2.map Value.string)) (hc1 : n1 ≤ c1) (hM1 : c1 ≤ maxLen) (hc2 : n2 ≤ c2) (hM2 : c2 ≤ maxLen) (htab : UTab w) (hst : STab w) :
    Calls Tryd.prog 8 #[T.agg, .slice A1 n1 c1, .slice A2 n2 c2] w fun e w' => e = .returned (.bool true) ∧ Below w.heap.size w w' := by
  obtain ⟨iS, hiS, hzS, hsS, hbS⟩ := vstr_info
  obtain ⟨iV, hiV, hzV, -, -⟩ := val_info
  have HW := Lib.hid (fun W (h : Below w.heap.size w W) => vwakes_any W (htab.below h htab.lt) (hst.below h hst.lt))
  have HT := Lib.hid (fun W (h : Below w.heap.size w W) => (⟨hL.later (h.mono hB), htab.below h htab.lt, hst.below h hst.lt⟩ : Lie W B T ∧ UTab W ∧ STab W))
  obtain ⟨m1, hm1⟩ : ∃ m, m = min n1 9 := ⟨_, rfl⟩
  obtain ⟨m2, hm2⟩ : ∃ m, m = min n2 9 := ⟨_, rfl⟩
  have hmi1 : min (n1 : Int) 9 = (m1 : Int) := by omega
  have hmi2 : min (n2 : Int) 9 = (m2 : Int) := by omega
  have hmj1 : (if (9 : Int) < (n1 : Int) then (9 : Int) else (n1 : Int)) = (m1 : Int) := by split <;> omega
  have hmj2 : (if (9 : Int) < (n2 : Int) then (9 : Int) else (n2 : Int)) = (m2 : Int) := by split <;> omega
  have hmle1 : m1 ≤ 9 := by omega
  have hmle2 : m2 ≤ 9 := by omega
  have hmn1 : m1 ≤ n1 := by omega
  have hmn2 : m2 ≤ n2 := by omega
  have hz1 : (0 : Int) ≤ m1 := by omega
  have hz2 : (0 : Int) ≤ m2 := by omega
  have hi1 : (m1 : Int) ≤ n1 := by omega
  have hi2 : (m2 : Int) ≤ n2 := by omega
  have hj1 : (m1 : Int) ≤ c1 := by omega
  have hj2 : (m2 : Int) ≤ c2 := by omega
  have hsh1 : Shows w B 1 A1 m1 ((l1.take m1).map Value.string) := by have := h1.first hmn1; rwa [Nat.mul_one, ← List.map_take] at this
  have hsh2 : Shows w B 1 A2 m2 ((l2.take m2).map Value.string) := by have := h2.first hmn2; rwa [Nat.mul_one, ← List.map_take] at this
  have hlen1 : (l1.take m1).length = m1 := keys_len hsh1
  have hlen2 : (l2.take m2).length = m2 := keys_len hsh2
  generalize l1.take m1 = L1 at *
  generalize l2.take m2 = L2 at *
  have hone1 := str_one L1
  have hone2 := str_one L2
  have hMx : 9 + 9 ≤ maxLen := by decide
  have Hsh1 := Lib.hid hsh1
  have Hsh2 := Lib.hid hsh2
  have Hok := Lib.hid (fun (p : List ByteArray) (X : VT) (h : pathO T p = some X) => pathO_ok h)
  have Hlie := Lib.hid (fun (p : List ByteArray) (X : VT) (h : pathO T p = some X) => lie_pathO hL h)
  have HTD := Lib.hid (fun W (h : Below w.heap.size w W) => depth_any B W T (HT.out W h).1 (Nat.le_trans hB h.size) (HT.out W h).2.1 (HT.out W h).2.2)
  have HPb := Lib.hid (fun A c B2 W (h : Below w.heap.size w W) hS hB2 => path_O B W T A (m1 + m2) c (L1 ++ L2) B2 (HT.out W h).1 (Nat.le_trans hB h.size) hS hB2 (by omega) (HT.out W h).2.1 (HT.out W h).2.2)
  have HPh := Lib.hid (fun A c B2 W (h : Below w.heap.size w W) hS hB2 => path_O B W T A m1 c L1 B2 (HT.out W h).1 (Nat.le_trans hB h.size) hS hB2 (by omega) (HT.out W h).2.1 (HT.out W h).2.2)
  have htwo := pathO_two T L1 L2
  generalize hrb : pathO T (L1 ++ L2) = rb at *
  generalize hrh : pathO T L1 = rh at *
  have Hrh := Lib.hid hrh
  have Htwo := Lib.hid htwo
  clear hrb hrh htwo
  generalize hXb : orZ rb = Xb at HPb
  have HXb := Lib.hid hXb
  obtain ⟨kb, nb, sb, cAb, cnb, ccb, kAb, knb, kcb, keysb, kidsb⟩ := Xb
  generalize hXh : orZ rh = Xh at HPh
  have HXh := Lib.hid hXh
  obtain ⟨kh, nh, sh, cAh, cnh, cch, kAh, knh, kch, keysh, kidsh⟩ := Xh
  clear hXb hXh
  have HTx := Lib.hid (fun W (h : Below w.heap.size w W) => (HT.out W h).2)
  clear HT
  generalize hdT : T.depR = dT at HTD
  have HdT := Lib.hid hdT
  clear hdT
  have Hmono := Lib.hid (fun (W W' : World) (X : VT) (hX : Lie w B X) (h : Below w.heap.size w W) => (hX.later (h.mono hB) : Lie W B X))
  obtain ⟨k, n, s, cA, cn, cc, kA, kn, kc, keys, kids⟩ := T
  simp only [VT.agg] at HPb HPh HTD ⊢
  have hb := bel_alloc (Below.refl w.heap.size w) (.cells #[.int .i64 k, .int .i64 n, .string s, .slice cA cn cc, .slice kA kn kc] 25)
  have Hv := Lib.hid (VFive.new w (.int .i64 k) (.int .i64 n) (.string s) (.slice cA cn cc) (.slice kA kn kc) 25 w.heap.size rfl)
  clear hm1 hm2 h1 h2 hsh1 hsh2 hL htab hst hM1 hM2
  go_enter Tryd.func8, Tryd.ntmps8
  go_wp2_with fail
  refine (HW.out _ hb).mono ?_
  rintro e W1 ⟨rfl, hb1⟩
  have hb2 := bel_next hb hb1
  have Hv1 := Lib.hid (Hv.out.later hb1)
  clear Hv hb1 hb
  go_upto_region 3 with fail
  have hs1 : ∀ W, Below W1.heap.size W1 W → Shows W B 1 A1 m1 (L1.map Value.string) := fun W h => Hsh1.out.below ((bel_next hb2 h).mono hB)
  have hs2 : ∀ W, Below W1.heap.size W1 W → Shows W B 1 A2 m2 (L2.map Value.string) := fun W h => Hsh2.out.below ((bel_next hb2 h).mono hB)
  go_cut [1, 2] (fun s1 s2 wx => ∃ A1' c1' A2' c2', s1 = .slice A1' m1 c1' ∧ s2 = .slice A2' m2 c2' ∧ Hid (Shows wx wx.heap.size 1 A1' m1 (L1.map Value.string)) ∧ Hid (Shows wx wx.heap.size 1 A2' m2 (L2.map Value.string)) ∧ Below W1.heap.size W1 wx)
  case first =>
    refine wp_region_held_drew (S := fun W => Below W1.heap.size W1 W) (by kernel_rfl) (below_drewN (Below.refl _ _) 1) (fun hHeld => ?_)
    refine rg_in 1 rfl (by kernel_rfl) (by kernel_rfl) (by kernel_rfl) (by rfl) (v := ?_) (fun _ _ _ h => h) hHeld (fun w hSw => ?_) ?_
    rotate_left
    · (try dsimp only at hSw); go_simp <;> (with_reducible rfl)
    (try simp only [Act.put, List.setIfInBounds_toArray, List.set_cons_zero, List.set_cons_succ])
    refine rg_in 2 rfl (by kernel_rfl) (by kernel_rfl) (by kernel_rfl) (by rfl) (v := ?_) (fun _ _ _ h => h) hHeld (fun w hSw => ?_) ?_
    rotate_left
    · (try dsimp only at hSw); go_simp <;> (with_reducible rfl)
    (try simp only [Act.put, List.setIfInBounds_toArray, List.set_cons_zero, List.set_cons_succ])
    refine rg_in 3 rfl (by kernel_rfl) (by kernel_rfl) (by kernel_rfl) (by rfl) (v := ?_) (fun _ _ _ h => h) hHeld (fun w hSw => ?_) ?_
    rotate_left
    · (try dsimp only at hSw); go_simp <;> (with_reducible rfl)
    (try simp only [Act.put, List.setIfInBounds_toArray, List.set_cons_zero, List.set_cons_succ])
    refine rg_in 4 rfl (by kernel_rfl) (by kernel_rfl) (by kernel_rfl) (by rfl) (v := ?_) (fun _ _ _ h => h) hHeld (fun w hSw => ?_) ?_
    rotate_left
    · (try dsimp only at hSw); go_simp <;> (with_reducible rfl)
    (try simp only [Act.put, List.setIfInBounds_toArray, List.set_cons_zero, List.set_cons_succ])
    refine rg_in 5 rfl (by kernel_rfl) (by kernel_rfl) (by kernel_rfl) (by rfl) (v := ?_) (fun _ _ _ h => h) hHeld (fun w hSw => ?_) ?_
    rotate_left
    · (try dsimp only at hSw); go_simp <;> (with_reducible rfl)
    (try simp only [Act.put, List.setIfInBounds_toArray, List.set_cons_zero, List.set_cons_succ])
    refine rg_in 8 rfl (by kernel_rfl) (by kernel_rfl) (by kernel_rfl) (by rfl) (v := ?_) (fun _ _ _ h => h) hHeld (fun w hSw => ?_) ?_
    rotate_left
    · (try dsimp only at hSw); go_simp <;> (with_reducible rfl)
    (try simp only [Act.put, List.setIfInBounds_toArray, List.set_cons_zero, List.set_cons_succ])
    refine rg_in 9 rfl (by kernel_rfl) (by kernel_rfl) (by kernel_rfl) (by rfl) (v := ?_) (fun _ _ _ h => h) hHeld (fun w hSw => ?_) ?_
    rotate_left
    · (try dsimp only at hSw); go_simp <;> (with_reducible rfl)
    (try simp only [Act.put, List.setIfInBounds_toArray, List.set_cons_zero, List.set_cons_succ])
    refine rg_in 10 rfl (by kernel_rfl) (by kernel_rfl) (by kernel_rfl) (by rfl) (v := ?_) (fun _ _ _ h => h) hHeld (fun w hSw => ?_) ?_
    rotate_left
    · (try dsimp only at hSw); go_simp <;> (with_reducible rfl)
    (try simp only [Act.put, List.setIfInBounds_toArray, List.set_cons_zero, List.set_cons_succ])
    refine rg_in 11 rfl (by kernel_rfl) (by kernel_rfl) (by kernel_rfl) (by rfl) (v := ?_) (fun _ _ _ h => h) hHeld (fun w hSw => ?_) ?_
    rotate_left
    · (try dsimp only at hSw); go_simp <;> (with_reducible rfl)
    (try simp only [Act.put, List.setIfInBounds_toArray, List.set_cons_zero, List.set_cons_succ])
    refine rg_in 12 rfl (by kernel_rfl) (by kernel_rfl) (by kernel_rfl) (by rfl) (v := ?_) (fun _ _ _ h => h) hHeld (fun w hSw => ?_) ?_
    rotate_left
    · (try dsimp only at hSw); go_simp <;> (with_reducible rfl)
    (try simp only [Act.put, List.setIfInBounds_toArray, List.set_cons_zero, List.set_cons_succ])
    refine wpAnyH_ready (rs := [0, 7]) (by kernel_rfl) (by simp) ?_
    refine rg_cons rfl (by rfl) (fun K hK => ?_) ?_
    · refine step_row0 23 9 rfl W1.heap.size 1 iS Tryd.underlying23 hiS hHeld.size ?_
      intro g100 w100 hge100 own100 hb0
      refine hK.out _ _ (S_call hb0 hHeld rfl) (fun hHeld => ?_)
      clear hK K
      (try simp only [Act.put, List.setIfInBounds_toArray, List.set_cons_zero, List.set_cons_succ])
      refine wpAnyH_ready (rs := [6, 7]) (by kernel_rfl) (by simp) ?_
      refine rg_cons rfl (by rfl) (fun K hK => ?_) ?_
      · refine step_app0 _ _ 23 rfl W1.heap.size 9 iS (.string ⟨#[]⟩) 1 16 Tryd.underlying23 hiS hzS hsS hbS rfl (by decide) _ rfl (own_later own100 (Below.refl _ _)) _ _ _ _ _ rfl (hs1 _ hHeld) hone1 (by omega) (by omega) hHeld.size ?_
        intro A106 c106 w106 own106 hb6
        refine hK.out _ _ (S_call hb6 hHeld rfl) (fun hHeld => ?_)
        clear hK K
        (try simp only [Act.put, List.setIfInBounds_toArray, List.set_cons_zero, List.set_cons_succ])
        refine rg_do 7 rfl (by kernel_rfl) (by rfl) (fun K hK => ?_)
        refine step_row0 23 9 rfl W1.heap.size 1 iS Tryd.underlying23 hiS hHeld.size ?_
        intro g107 w107 hge107 own107 hb7
        refine hK.out _ _ (S_call hb7 hHeld rfl) (fun hHeld => ?_)
        clear hK K
        (try simp only [Act.put, List.setIfInBounds_toArray, List.set_cons_zero, List.set_cons_succ])
        refine rg_do 13 rfl (by kernel_rfl) (by rfl) (fun K hK => ?_)
        refine step_app0 _ _ 23 rfl W1.heap.size 9 iS (.string ⟨#[]⟩) 1 16 Tryd.underlying23 hiS hzS hsS hbS rfl (by decide) _ rfl (own_later own107 (Below.refl _ _)) _ _ _ _ _ rfl (hs2 _ hHeld) hone2 (by omega) (by omega) hHeld.size ?_
        intro A113 c113 w113 own113 hb13
        refine hK.out _ _ (S_call hb13 hHeld rfl) (fun hHeld => ?_)
        clear hK K
        (try simp only [Act.put, List.setIfInBounds_toArray, List.set_cons_zero, List.set_cons_succ])
        refine rg_in 14 rfl (by kernel_rfl) (by kernel_rfl) (by kernel_rfl) (by rfl) (v := ?_) (fun _ _ _ h => h) hHeld (fun w hSw => ?_) ?_
        rotate_left
        · (try dsimp only at hSw); go_simp <;> (with_reducible rfl)
        (try simp only [Act.put, List.setIfInBounds_toArray, List.set_cons_zero, List.set_cons_succ])
        refine rg_in 15 rfl (by kernel_rfl) (by kernel_rfl) (by kernel_rfl) (by rfl) (v := ?_) (fun _ _ _ h => h) hHeld (fun w hSw => ?_) ?_
        rotate_left
        · (try dsimp only at hSw); go_simp <;> (with_reducible rfl)
        (try simp only [Act.put, List.setIfInBounds_toArray, List.set_cons_zero, List.set_cons_succ])
        refine wpAnyH_done (by kernel_rfl) ?_ _
        go_wp2
        go_meet
        case rel => exact ⟨_, _, _, _, rfl, rfl, Lib.hid (Shows.own (own_later own106 (bel_next hb7 hb13))), Lib.hid (Shows.own (own_later own113 (Below.refl _ _))), hHeld⟩
      refine rg_cons rfl (by rfl) (fun K hK => ?_) ?_
      · refine step_row0 23 9 rfl W1.heap.size 1 iS Tryd.underlying23 hiS hHeld.size ?_
        intro g107 w107 hge107 own107 hb7
        refine hK.out _ _ (S_call hb7 hHeld rfl) (fun hHeld => ?_)
        clear hK K
        (try simp only [Act.put, List.setIfInBounds_toArray, List.set_cons_zero, List.set_cons_succ])
        refine rg_do 6 rfl (by kernel_rfl) (by rfl) (fun K hK => ?_)
        refine step_app0 _ _ 23 rfl W1.heap.size 9 iS (.string ⟨#[]⟩) 1 16 Tryd.underlying23 hiS hzS hsS hbS rfl (by decide) _ rfl (own_later own100 hb7) _ _ _ _ _ rfl (hs1 _ hHeld) hone1 (by omega) (by omega) hHeld.size ?_
        intro A106 c106 w106 own106 hb6
        refine hK.out _ _ (S_call hb6 hHeld rfl) (fun hHeld => ?_)
        clear hK K
        (try simp only [Act.put, List.setIfInBounds_toArray, List.set_cons_zero, List.set_cons_succ])
        refine rg_do 13 rfl (by kernel_rfl) (by rfl) (fun K hK => ?_)
        refine step_app0 _ _ 23 rfl W1.heap.size 9 iS (.string ⟨#[]⟩) 1 16 Tryd.underlying23 hiS hzS hsS hbS rfl (by decide) _ rfl (own_later own107 hb6) _ _ _ _ _ rfl (hs2 _ hHeld) hone2 (by omega) (by omega) hHeld.size ?_
        intro A113 c113 w113 own113 hb13
        refine hK.out _ _ (S_call hb13 hHeld rfl) (fun hHeld => ?_)
        clear hK K
        (try simp only [Act.put, List.setIfInBounds_toArray, List.set_cons_zero, List.set_cons_succ])
        refine rg_in 14 rfl (by kernel_rfl) (by kernel_rfl) (by kernel_rfl) (by rfl) (v := ?_) (fun _ _ _ h => h) hHeld (fun w hSw => ?_) ?_
        rotate_left
        · (try dsimp only at hSw); go_simp <;> (with_reducible rfl)
        (try simp only [Act.put, List.setIfInBounds_toArray, List.set_cons_zero, List.set_cons_succ])
        refine rg_in 15 rfl (by kernel_rfl) (by kernel_rfl) (by kernel_rfl) (by rfl) (v := ?_) (fun _ _ _ h => h) hHeld (fun w hSw => ?_) ?_
        rotate_left
        · (try dsimp only at hSw); go_simp <;> (with_reducible rfl)
        (try simp only [Act.put, List.setIfInBounds_toArray, List.set_cons_zero, List.set_cons_succ])
        refine wpAnyH_done (by kernel_rfl) ?_ _
        go_wp2
        go_meet
        case rel => exact ⟨_, _, _, _, rfl, rfl, Lib.hid (Shows.own (own_later own106 hb13)), Lib.hid (Shows.own (own_later own113 (Below.refl _ _))), hHeld⟩
      exact AllReadyH.nil
    refine rg_cons rfl (by rfl) (fun K hK => ?_) ?_
    · refine step_row0 23 9 rfl W1.heap.size 1 iS Tryd.underlying23 hiS hHeld.size ?_
      intro g107 w107 hge107 own107 hb7
      refine hK.out _ _ (S_call hb7 hHeld rfl) (fun hHeld => ?_)
      clear hK K
      (try simp only [Act.put, List.setIfInBounds_toArray, List.set_cons_zero, List.set_cons_succ])
      refine rg_do 0 rfl (by kernel_rfl) (by rfl) (fun K hK => ?_)
      refine step_row0 23 9 rfl W1.heap.size 1 iS Tryd.underlying23 hiS hHeld.size ?_
      intro g100 w100 hge100 own100 hb0
      refine hK.out _ _ (S_call hb0 hHeld rfl) (fun hHeld => ?_)
      clear hK K
      (try simp only [Act.put, List.setIfInBounds_toArray, List.set_cons_zero, List.set_cons_succ])
      refine rg_do 6 rfl (by kernel_rfl) (by rfl) (fun K hK => ?_)
      refine step_app0 _ _ 23 rfl W1.heap.size 9 iS (.string ⟨#[]⟩) 1 16 Tryd.underlying23 hiS hzS hsS hbS rfl (by decide) _ rfl (own_later own100 (Below.refl _ _)) _ _ _ _ _ rfl (hs1 _ hHeld) hone1 (by omega) (by omega) hHeld.size ?_
      intro A106 c106 w106 own106 hb6
      refine hK.out _ _ (S_call hb6 hHeld rfl) (fun hHeld => ?_)
      clear hK K
      (try simp only [Act.put, List.setIfInBounds_toArray, List.set_cons_zero, List.set_cons_succ])
      refine rg_do 13 rfl (by kernel_rfl) (by rfl) (fun K hK => ?_)
      refine step_app0 _ _ 23 rfl W1.heap.size 9 iS (.string ⟨#[]⟩) 1 16 Tryd.underlying23 hiS hzS hsS hbS rfl (by decide) _ rfl (own_later own107 (bel_next hb0 hb6)) _ _ _ _ _ rfl (hs2 _ hHeld) hone2 (by omega) (by omega) hHeld.size ?_
      intro A113 c113 w113 own113 hb13
      refine hK.out _ _ (S_call hb13 hHeld rfl) (fun hHeld => ?_)
      clear hK K
      (try simp only [Act.put, List.setIfInBounds_toArray, List.set_cons_zero, List.set_cons_succ])
      refine rg_in 14 rfl (by kernel_rfl) (by kernel_rfl) (by kernel_rfl) (by rfl) (v := ?_) (fun _ _ _ h => h) hHeld (fun w hSw => ?_) ?_
      rotate_left
      · (try dsimp only at hSw); go_simp <;> (with_reducible rfl)
      (try simp only [Act.put, List.setIfInBounds_toArray, List.set_cons_zero, List.set_cons_succ])
      refine rg_in 15 rfl (by kernel_rfl) (by kernel_rfl) (by kernel_rfl) (by rfl) (v := ?_) (fun _ _ _ h => h) hHeld (fun w hSw => ?_) ?_
      rotate_left
      · (try dsimp only at hSw); go_simp <;> (with_reducible rfl)
      (try simp only [Act.put, List.setIfInBounds_toArray, List.set_cons_zero, List.set_cons_succ])
      refine wpAnyH_done (by kernel_rfl) ?_ _
      go_wp2
      go_meet
      case rel => exact ⟨_, _, _, _, rfl, rfl, Lib.hid (Shows.own (own_later own106 hb13)), Lib.hid (Shows.own (own_later own113 (Below.refl _ _))), hHeld⟩
    exact AllReadyH.nil
  case rest =>
    obtain ⟨A1', c1', A2', c2', rfl, rfl, H1, H2, hbc⟩ := hcut
    rename World => W2
    have hb3 := bel_next hb2 hbc
    have Hv2 := Lib.hid (Hv1.out.later hbc)
    clear Hv1 hs1 hs2 hbc hb2 Hsh1 Hsh2
    go_upto_region 4 with fail
    have hs12 : ∀ W, Below W2.heap.size W2 W → Shows W W2.heap.size 1 A1' m1 (L1.map Value.string) := fun W h => H1.out.below h
    have hs22 : ∀ W, Below W2.heap.size W2 W → Shows W W2.heap.size 1 A2' m2 (L2.map Value.string) := fun W h => H2.out.below h
    have HP := Lib.hid (fun A c B2 W (h : Below W2.heap.size W2 W) hS hB2 => HPb.out A c B2 W (bel_next hb3 h) hS hB2)
    have hv0 : ∀ W, Below W2.heap.size W2 W → W.cell? ⟨w.heap.size, 0, none⟩ = some (.int .i64 k) := fun W h => (Hv2.out.later h).1.1
    have hv1 : ∀ W, Below W2.heap.size W2 W → W.cell? ⟨w.heap.size, 1, none⟩ = some (.int .i64 n) := fun W h => (Hv2.out.later h).1.2.1
    have hv2 : ∀ W, Below W2.heap.size W2 W → W.cell? ⟨w.heap.size, 2, none⟩ = some (.string s) := fun W h => (Hv2.out.later h).1.2.2.1
    have hv3 : ∀ W, Below W2.heap.size W2 W → W.cell? ⟨w.heap.size, 3, none⟩ = some (.slice cA cn cc) := fun W h => (Hv2.out.later h).1.2.2.2.1
    have hv4 : ∀ W, Below W2.heap.size W2 W → W.cell? ⟨w.heap.size, 4, none⟩ = some (.slice kA kn kc) := fun W h => (Hv2.out.later h).1.2.2.2.2
    go_cut [7, 8] (fun s7 s8 wx => ∃ g7, s7 = .pointer (some ⟨g7, 0, none⟩) ∧ s8 = .bool rb.isSome ∧ W2.heap.size ≤ g7 ∧ Hid (VFive wx g7 (.int .i64 kb) (.int .i64 nb) (.string sb) (.slice cAb cnb ccb) (.slice kAb knb kcb)) ∧ Below W2.heap.size W2 wx)
    case first =>
      refine wp_region_held_drew (S := fun W => Below W2.heap.size W2 W) (by kernel_rfl) (below_drewN (Below.refl _ _) 1) (fun hHeld => ?_)
      refine rg_in 0 rfl (by kernel_rfl) (by kernel_rfl) (by kernel_rfl) (by rfl) (v := ?_) (fun _ _ _ h => h) hHeld (fun w hSw => ?_) ?_
      rotate_left
      · (try dsimp only at hSw); go_simp <;> (with_reducible rfl)
      (try simp only [Act.put, List.setIfInBounds_toArray, List.set_cons_zero, List.set_cons_succ])
      refine rg_in 2 rfl (by kernel_rfl) (by kernel_rfl) (by kernel_rfl) (by rfl) (v := ?_) (fun _ _ _ h => h) hHeld (fun w hSw => ?_) ?_
      rotate_left
      · (try dsimp only at hSw); go_simp <;> (with_reducible rfl)
      (try simp only [Act.put, List.setIfInBounds_toArray, List.set_cons_zero, List.set_cons_succ])
      refine rg_in 4 rfl (by kernel_rfl) (by kernel_rfl) (by kernel_rfl) (by rfl) (v := ?_) (fun _ _ _ h => h) hHeld (fun w hSw => ?_) ?_
      rotate_left
      · (try dsimp only at hSw); go_simp <;> (with_reducible rfl)
      (try simp only [Act.put, List.setIfInBounds_toArray, List.set_cons_zero, List.set_cons_succ])
      refine wpAnyH_ready (rs := [1, 10]) (by kernel_rfl) (by simp) ?_
      refine rg_cons rfl (by rfl) (fun K hK => ?_) ?_
      · refine step_row0 23 9 rfl W2.heap.size 1 iS Tryd.underlying23 hiS hHeld.size ?_
        intro g101 w101 hge101 own101 hb1
        refine hK.out _ _ (S_call hb1 hHeld rfl) (fun hHeld => ?_)
        clear hK K
        (try simp only [Act.put, List.setIfInBounds_toArray, List.set_cons_zero, List.set_cons_succ])
        refine wpAnyH_ready (rs := [3, 10]) (by kernel_rfl) (by simp) ?_
        refine rg_cons rfl (by rfl) (fun K hK => ?_) ?_
        · refine step_app0 _ _ 23 rfl W2.heap.size 9 iS (.string ⟨#[]⟩) 1 16 Tryd.underlying23 hiS hzS hsS hbS rfl (by decide) _ rfl (own_later own101 (Below.refl _ _)) _ _ _ _ _ rfl (hs12 _ hHeld) hone1 (by omega) (by omega) hHeld.size ?_
          intro A103 c103 w103 own103 hb3
          refine hK.out _ _ (S_call hb3 hHeld rfl) (fun hHeld => ?_)
          clear hK K
          (try simp only [Act.put, List.setIfInBounds_toArray, List.set_cons_zero, List.set_cons_succ])
          refine wpAnyH_ready (rs := [5, 10]) (by kernel_rfl) (by simp) ?_
          refine rg_cons rfl (by rfl) (fun K hK => ?_) ?_
          · refine wp_append_shows _ _ _ 23 rfl W2.heap.size 9 iS (.string ⟨#[]⟩) 1 16 Tryd.underlying23 hiS hzS hsS hbS rfl (by decide) _ _ _ rfl (own_later own103 (Below.refl _ _)) _ _ _ _ _ rfl (hs22 _ hHeld) hone2 (by omega) (by omega) hHeld.size ?_
            intro A105 c105 w105 own105 hg5 hB5
            rw [← List.map_append] at own105
            refine hK.out _ _ (hHeld.trans hB5) (fun hHeld => ?_)
            clear hK K
            (try simp only [Act.put, List.setIfInBounds_toArray, List.set_cons_zero, List.set_cons_succ])
            refine wpAnyH_ready (rs := [6, 10]) (by kernel_rfl) (by simp) ?_
            refine rg_cons rfl (by rfl) (fun K hK => ?_) ?_
            · go_simp
              (go_at_call 24; (with_reducible refine (HP.out _ _ _ _ hHeld (Shows.own (own_later own105 (Below.refl _ _))) (Nat.le_refl _)).mono ?_); (rintro e w106 ⟨rfl, hb6⟩))
              refine hK.out _ _ (S_call hb6 hHeld rfl) (fun hHeld => ?_)
              clear hK K
              (try simp only [Act.put, List.setIfInBounds_toArray, List.set_cons_zero, List.set_cons_succ])
              refine rg_in 7 rfl (by kernel_rfl) (by kernel_rfl) (by kernel_rfl) (by rfl) (v := ?_) (fun _ _ _ h => h) hHeld (fun w hSw => ?_) ?_
              rotate_left
              · (try dsimp only at hSw); go_simp <;> (with_reducible rfl)
              (try simp only [Act.put, List.setIfInBounds_toArray, List.set_cons_zero, List.set_cons_succ])
              refine rg_in 8 rfl (by kernel_rfl) (by kernel_rfl) (by kernel_rfl) (by rfl) (v := ?_) (fun _ _ _ h => h) hHeld (fun w hSw => ?_) ?_
              rotate_left
              · (try dsimp only at hSw); go_simp <;> (with_reducible rfl)
              (try simp only [Act.put, List.setIfInBounds_toArray, List.set_cons_zero, List.set_cons_succ])
              refine rg_in 9 rfl (by kernel_rfl) (by kernel_rfl) (by kernel_rfl) (by rfl) (v := ?_) (fun _ _ _ h => h) hHeld (fun w hSw => ?_) ?_
              rotate_left
              · (try dsimp only at hSw); go_simp <;> (with_reducible rfl)
              (try simp only [Act.put, List.setIfInBounds_toArray, List.set_cons_zero, List.set_cons_succ])
              refine rg_do 10 rfl (by kernel_rfl) (by rfl) (fun K hK => ?_)
              have hHeld0_x := hHeld
              refine step_alloc 25 rfl iV _ hiV hzV ?_
              intro g110 w110 hge10 hbox10 hb10
              refine hK.out _ _ (S_call hb10 hHeld rfl) (fun hHeld => ?_)
              clear hK K
              (try simp only [Act.put, List.setIfInBounds_toArray, List.set_cons_zero, List.set_cons_succ])
              refine rg_do 11 rfl (by kernel_rfl) (by rfl) (fun K hK => ?_)
              have hV := Lib.hid (five_of_blk (blk_later hbox10 (Below.refl _ _)))
              have hge := Nat.le_trans hHeld0_x.size hge10
              obtain ⟨⟨q0, q1, q2, q3, q4⟩, ⟨f0, f1, f2, f3, f4⟩⟩ := hV.out
              go_simp
              have hV11 := hV.out.set5 (a' := .int .i64 kb) (b' := .int .i64 nb) (c' := .string sb) (d' := .slice cAb cnb ccb) (e' := .slice kAb knb kcb)
              refine hK.out _ _ (hHeld.trans (vbelow_set5 (Below.refl _ _) hge)) (fun hHeld => ?_)
              clear hK K
              (try simp only [Act.put, List.setIfInBounds_toArray, List.set_cons_zero, List.set_cons_succ])
              refine rg_in 12 rfl (by kernel_rfl) (by kernel_rfl) (by kernel_rfl) (by rfl) (v := ?_) (fun _ _ _ h => h) hHeld (fun w hSw => ?_) ?_
              rotate_left
              · (try dsimp only at hSw); go_simp <;> (with_reducible rfl)
              (try simp only [Act.put, List.setIfInBounds_toArray, List.set_cons_zero, List.set_cons_succ])
              refine wpAnyH_done (by kernel_rfl) ?_ _
              go_wp2
              go_meet
              case rel => exact ⟨_, rfl, rfl, hge, Lib.hid hV11, hHeld⟩
            refine rg_cons rfl (by rfl) (fun K hK => ?_) ?_
            · have hHeld0_x := hHeld
              refine step_alloc 25 rfl iV _ hiV hzV ?_
              intro g110 w110 hge10 hbox10 hb10
              refine hK.out _ _ (S_call hb10 hHeld rfl) (fun hHeld => ?_)
              clear hK K
              (try simp only [Act.put, List.setIfInBounds_toArray, List.set_cons_zero, List.set_cons_succ])
              refine rg_do 6 rfl (by kernel_rfl) (by rfl) (fun K hK => ?_)
              go_simp
              (go_at_call 24; (with_reducible refine (HP.out _ _ _ _ hHeld (Shows.own (own_later own105 hb10)) (Nat.le_refl _)).mono ?_); (rintro e w106 ⟨rfl, hb6⟩))
              refine hK.out _ _ (S_call hb6 hHeld rfl) (fun hHeld => ?_)
              clear hK K
              (try simp only [Act.put, List.setIfInBounds_toArray, List.set_cons_zero, List.set_cons_succ])
              refine rg_in 7 rfl (by kernel_rfl) (by kernel_rfl) (by kernel_rfl) (by rfl) (v := ?_) (fun _ _ _ h => h) hHeld (fun w hSw => ?_) ?_
              rotate_left
              · (try dsimp only at hSw); go_simp <;> (with_reducible rfl)
              (try simp only [Act.put, List.setIfInBounds_toArray, List.set_cons_zero, List.set_cons_succ])
              refine rg_in 8 rfl (by kernel_rfl) (by kernel_rfl) (by kernel_rfl) (by rfl) (v := ?_) (fun _ _ _ h => h) hHeld (fun w hSw => ?_) ?_
              rotate_left
              · (try dsimp only at hSw); go_simp <;> (with_reducible rfl)
              (try simp only [Act.put, List.setIfInBounds_toArray, List.set_cons_zero, List.set_cons_succ])
              refine rg_in 9 rfl (by kernel_rfl) (by kernel_rfl) (by kernel_rfl) (by rfl) (v := ?_) (fun _ _ _ h => h) hHeld (fun w hSw => ?_) ?_
              rotate_left
              · (try dsimp only at hSw); go_simp <;> (with_reducible rfl)
              (try simp only [Act.put, List.setIfInBounds_toArray, List.set_cons_zero, List.set_cons_succ])
              refine rg_do 11 rfl (by kernel_rfl) (by rfl) (fun K hK => ?_)
              have hV := Lib.hid (five_of_blk (blk_later hbox10 hb6))
              have hge := Nat.le_trans hHeld0_x.size hge10
              obtain ⟨⟨q0, q1, q2, q3, q4⟩, ⟨f0, f1, f2, f3, f4⟩⟩ := hV.out
              go_simp
              have hV11 := hV.out.set5 (a' := .int .i64 kb) (b' := .int .i64 nb) (c' := .string sb) (d' := .slice cAb cnb ccb) (e' := .slice kAb knb kcb)
              refine hK.out _ _ (hHeld.trans (vbelow_set5 (Below.refl _ _) hge)) (fun hHeld => ?_)
              clear hK K
              (try simp only [Act.put, List.setIfInBounds_toArray, List.set_cons_zero, List.set_cons_succ])
              refine rg_in 12 rfl (by kernel_rfl) (by kernel_rfl) (by kernel_rfl) (by rfl) (v := ?_) (fun _ _ _ h => h) hHeld (fun w hSw => ?_) ?_
              rotate_left
              · (try dsimp only at hSw); go_simp <;> (with_reducible rfl)
              (try simp only [Act.put, List.setIfInBounds_toArray, List.set_cons_zero, List.set_cons_succ])
              refine wpAnyH_done (by kernel_rfl) ?_ _
              go_wp2
              go_meet
              case rel => exact ⟨_, rfl, rfl, hge, Lib.hid hV11, hHeld⟩
            exact AllReadyH.nil
          refine rg_cons rfl (by rfl) (fun K hK => ?_) ?_
          · have hHeld0_x := hHeld
            refine step_alloc 25 rfl iV _ hiV hzV ?_
            intro g110 w110 hge10 hbox10 hb10
            refine hK.out _ _ (S_call hb10 hHeld rfl) (fun hHeld => ?_)
            clear hK K
            (try simp only [Act.put, List.setIfInBounds_toArray, List.set_cons_zero, List.set_cons_succ])
            refine rg_do 5 rfl (by kernel_rfl) (by rfl) (fun K hK => ?_)
            refine wp_append_shows _ _ _ 23 rfl W2.heap.size 9 iS (.string ⟨#[]⟩) 1 16 Tryd.underlying23 hiS hzS hsS hbS rfl (by decide) _ _ _ rfl (own_later own103 hb10) _ _ _ _ _ rfl (hs22 _ hHeld) hone2 (by omega) (by omega) hHeld.size ?_
            intro A105 c105 w105 own105 hg5 hB5
            rw [← List.map_append] at own105
            have hbox5 := blk_other (blk_later hbox10 (Below.refl _ _)) hg5 (own_blk_ne (own_later own103 hb10) (blk_later hbox10 (Below.refl _ _)) (by decide))
            refine hK.out _ _ (hHeld.trans hB5) (fun hHeld => ?_)
            clear hK K
            (try simp only [Act.put, List.setIfInBounds_toArray, List.set_cons_zero, List.set_cons_succ])
            refine rg_do 6 rfl (by kernel_rfl) (by rfl) (fun K hK => ?_)
            go_simp
            (go_at_call 24; (with_reducible refine (HP.out _ _ _ _ hHeld (Shows.own (own_later own105 (Below.refl _ _))) (Nat.le_refl _)).mono ?_); (rintro e w106 ⟨rfl, hb6⟩))
            refine hK.out _ _ (S_call hb6 hHeld rfl) (fun hHeld => ?_)
            clear hK K
            (try simp only [Act.put, List.setIfInBounds_toArray, List.set_cons_zero, List.set_cons_succ])
            refine rg_in 7 rfl (by kernel_rfl) (by kernel_rfl) (by kernel_rfl) (by rfl) (v := ?_) (fun _ _ _ h => h) hHeld (fun w hSw => ?_) ?_
            rotate_left
            · (try dsimp only at hSw); go_simp <;> (with_reducible rfl)
            (try simp only [Act.put, List.setIfInBounds_toArray, List.set_cons_zero, List.set_cons_succ])
            refine rg_in 8 rfl (by kernel_rfl) (by kernel_rfl) (by kernel_rfl) (by rfl) (v := ?_) (fun _ _ _ h => h) hHeld (fun w hSw => ?_) ?_
            rotate_left
            · (try dsimp only at hSw); go_simp <;> (with_reducible rfl)
            (try simp only [Act.put, List.setIfInBounds_toArray, List.set_cons_zero, List.set_cons_succ])
            refine rg_in 9 rfl (by kernel_rfl) (by kernel_rfl) (by kernel_rfl) (by rfl) (v := ?_) (fun _ _ _ h => h) hHeld (fun w hSw => ?_) ?_
            rotate_left
            · (try dsimp only at hSw); go_simp <;> (with_reducible rfl)
            (try simp only [Act.put, List.setIfInBounds_toArray, List.set_cons_zero, List.set_cons_succ])
            refine rg_do 11 rfl (by kernel_rfl) (by rfl) (fun K hK => ?_)
            have hV := Lib.hid (five_of_blk (blk_later hbox5 hb6))
            have hge := Nat.le_trans hHeld0_x.size hge10
            obtain ⟨⟨q0, q1, q2, q3, q4⟩, ⟨f0, f1, f2, f3, f4⟩⟩ := hV.out
            go_simp
            have hV11 := hV.out.set5 (a' := .int .i64 kb) (b' := .int .i64 nb) (c' := .string sb) (d' := .slice cAb cnb ccb) (e' := .slice kAb knb kcb)
            refine hK.out _ _ (hHeld.trans (vbelow_set5 (Below.refl _ _) hge)) (fun hHeld => ?_)
            clear hK K
            (try simp only [Act.put, List.setIfInBounds_toArray, List.set_cons_zero, List.set_cons_succ])
            refine rg_in 12 rfl (by kernel_rfl) (by kernel_rfl) (by kernel_rfl) (by rfl) (v := ?_) (fun _ _ _ h => h) hHeld (fun w hSw => ?_) ?_
            rotate_left
            · (try dsimp only at hSw); go_simp <;> (with_reducible rfl)
            (try simp only [Act.put, List.setIfInBounds_toArray, List.set_cons_zero, List.set_cons_succ])
            refine wpAnyH_done (by kernel_rfl) ?_ _
            go_wp2
            go_meet
            case rel => exact ⟨_, rfl, rfl, hge, Lib.hid hV11, hHeld⟩
          exact AllReadyH.nil
        refine rg_cons rfl (by rfl) (fun K hK => ?_) ?_
        · have hHeld0_x := hHeld
          refine step_alloc 25 rfl iV _ hiV hzV ?_
          intro g110 w110 hge10 hbox10 hb10
          refine hK.out _ _ (S_call hb10 hHeld rfl) (fun hHeld => ?_)
          clear hK K
          (try simp only [Act.put, List.setIfInBounds_toArray, List.set_cons_zero, List.set_cons_succ])
          refine rg_do 3 rfl (by kernel_rfl) (by rfl) (fun K hK => ?_)
          refine step_app0 _ _ 23 rfl W2.heap.size 9 iS (.string ⟨#[]⟩) 1 16 Tryd.underlying23 hiS hzS hsS hbS rfl (by decide) _ rfl (own_later own101 hb10) _ _ _ _ _ rfl (hs12 _ hHeld) hone1 (by omega) (by omega) hHeld.size ?_
          intro A103 c103 w103 own103 hb3
          refine hK.out _ _ (S_call hb3 hHeld rfl) (fun hHeld => ?_)
          clear hK K
          (try simp only [Act.put, List.setIfInBounds_toArray, List.set_cons_zero, List.set_cons_succ])
          refine rg_do 5 rfl (by kernel_rfl) (by rfl) (fun K hK => ?_)
          refine wp_append_shows _ _ _ 23 rfl W2.heap.size 9 iS (.string ⟨#[]⟩) 1 16 Tryd.underlying23 hiS hzS hsS hbS rfl (by decide) _ _ _ rfl (own_later own103 (Below.refl _ _)) _ _ _ _ _ rfl (hs22 _ hHeld) hone2 (by omega) (by omega) hHeld.size ?_
          intro A105 c105 w105 own105 hg5 hB5
          rw [← List.map_append] at own105
          have hbox5 := blk_other (blk_later hbox10 hb3) hg5 (own_blk_ne (own_later own103 (Below.refl _ _)) (blk_later hbox10 hb3) (by decide))
          refine hK.out _ _ (hHeld.trans hB5) (fun hHeld => ?_)
          clear hK K
          (try simp only [Act.put, List.setIfInBounds_toArray, List.set_cons_zero, List.set_cons_succ])
          refine rg_do 6 rfl (by kernel_rfl) (by rfl) (fun K hK => ?_)
          go_simp
          (go_at_call 24; (with_reducible refine (HP.out _ _ _ _ hHeld (Shows.own (own_later own105 (Below.refl _ _))) (Nat.le_refl _)).mono ?_); (rintro e w106 ⟨rfl, hb6⟩))
          refine hK.out _ _ (S_call hb6 hHeld rfl) (fun hHeld => ?_)
          clear hK K
          (try simp only [Act.put, List.setIfInBounds_toArray, List.set_cons_zero, List.set_cons_succ])
          refine rg_in 7 rfl (by kernel_rfl) (by kernel_rfl) (by kernel_rfl) (by rfl) (v := ?_) (fun _ _ _ h => h) hHeld (fun w hSw => ?_) ?_
          rotate_left
          · (try dsimp only at hSw); go_simp <;> (with_reducible rfl)
          (try simp only [Act.put, List.setIfInBounds_toArray, List.set_cons_zero, List.set_cons_succ])
          refine rg_in 8 rfl (by kernel_rfl) (by kernel_rfl) (by kernel_rfl) (by rfl) (v := ?_) (fun _ _ _ h => h) hHeld (fun w hSw => ?_) ?_
          rotate_left
          · (try dsimp only at hSw); go_simp <;> (with_reducible rfl)
          (try simp only [Act.put, List.setIfInBounds_toArray, List.set_cons_zero, List.set_cons_succ])
          refine rg_in 9 rfl (by kernel_rfl) (by kernel_rfl) (by kernel_rfl) (by rfl) (v := ?_) (fun _ _ _ h => h) hHeld (fun w hSw => ?_) ?_
          rotate_left
          · (try dsimp only at hSw); go_simp <;> (with_reducible rfl)
          (try simp only [Act.put, List.setIfInBounds_toArray, List.set_cons_zero, List.set_cons_succ])
          refine rg_do 11 rfl (by kernel_rfl) (by rfl) (fun K hK => ?_)
          have hV := Lib.hid (five_of_blk (blk_later hbox5 hb6))
          have hge := Nat.le_trans hHeld0_x.size hge10
          obtain ⟨⟨q0, q1, q2, q3, q4⟩, ⟨f0, f1, f2, f3, f4⟩⟩ := hV.out
          go_simp
          have hV11 := hV.out.set5 (a' := .int .i64 kb) (b' := .int .i64 nb) (c' := .string sb) (d' := .slice cAb cnb ccb) (e' := .slice kAb knb kcb)
          refine hK.out _ _ (hHeld.trans (vbelow_set5 (Below.refl _ _) hge)) (fun hHeld => ?_)
          clear hK K
          (try simp only [Act.put, List.setIfInBounds_toArray, List.set_cons_zero, List.set_cons_succ])
          refine rg_in 12 rfl (by kernel_rfl) (by kernel_rfl) (by kernel_rfl) (by rfl) (v := ?_) (fun _ _ _ h => h) hHeld (fun w hSw => ?_) ?_
          rotate_left
          · (try dsimp only at hSw); go_simp <;> (with_reducible rfl)
          (try simp only [Act.put, List.setIfInBounds_toArray, List.set_cons_zero, List.set_cons_succ])
          refine wpAnyH_done (by kernel_rfl) ?_ _
          go_wp2
          go_meet
          case rel => exact ⟨_, rfl, rfl, hge, Lib.hid hV11, hHeld⟩
        exact AllReadyH.nil
      refine rg_cons rfl (by rfl) (fun K hK => ?_) ?_
      · have hHeld0_x := hHeld
        refine step_alloc 25 rfl iV _ hiV hzV ?_
        intro g110 w110 hge10 hbox10 hb10
        refine hK.out _ _ (S_call hb10 hHeld rfl) (fun hHeld => ?_)
        clear hK K
        (try simp only [Act.put, List.setIfInBounds_toArray, List.set_cons_zero, List.set_cons_succ])
        refine rg_do 1 rfl (by kernel_rfl) (by rfl) (fun K hK => ?_)
        refine step_row0 23 9 rfl W2.heap.size 1 iS Tryd.underlying23 hiS hHeld.size ?_
        intro g101 w101 hge101 own101 hb1
        refine hK.out _ _ (S_call hb1 hHeld rfl) (fun hHeld => ?_)
        clear hK K
        (try simp only [Act.put, List.setIfInBounds_toArray, List.set_cons_zero, List.set_cons_succ])
        refine rg_do 3 rfl (by kernel_rfl) (by rfl) (fun K hK => ?_)
        refine step_app0 _ _ 23 rfl W2.heap.size 9 iS (.string ⟨#[]⟩) 1 16 Tryd.underlying23 hiS hzS hsS hbS rfl (by decide) _ rfl (own_later own101 (Below.refl _ _)) _ _ _ _ _ rfl (hs12 _ hHeld) hone1 (by omega) (by omega) hHeld.size ?_
        intro A103 c103 w103 own103 hb3
        refine hK.out _ _ (S_call hb3 hHeld rfl) (fun hHeld => ?_)
        clear hK K
        (try simp only [Act.put, List.setIfInBounds_toArray, List.set_cons_zero, List.set_cons_succ])
        refine rg_do 5 rfl (by kernel_rfl) (by rfl) (fun K hK => ?_)
        refine wp_append_shows _ _ _ 23 rfl W2.heap.size 9 iS (.string ⟨#[]⟩) 1 16 Tryd.underlying23 hiS hzS hsS hbS rfl (by decide) _ _ _ rfl (own_later own103 (Below.refl _ _)) _ _ _ _ _ rfl (hs22 _ hHeld) hone2 (by omega) (by omega) hHeld.size ?_
        intro A105 c105 w105 own105 hg5 hB5
        rw [← List.map_append] at own105
        have hbox5 := blk_other (blk_later hbox10 (bel_next hb1 hb3)) hg5 (own_blk_ne (own_later own103 (Below.refl _ _)) (blk_later hbox10 (bel_next hb1 hb3)) (by decide))
        refine hK.out _ _ (hHeld.trans hB5) (fun hHeld => ?_)
        clear hK K
        (try simp only [Act.put, List.setIfInBounds_toArray, List.set_cons_zero, List.set_cons_succ])
        refine rg_do 6 rfl (by kernel_rfl) (by rfl) (fun K hK => ?_)
        go_simp
        (go_at_call 24; (with_reducible refine (HP.out _ _ _ _ hHeld (Shows.own (own_later own105 (Below.refl _ _))) (Nat.le_refl _)).mono ?_); (rintro e w106 ⟨rfl, hb6⟩))
        refine hK.out _ _ (S_call hb6 hHeld rfl) (fun hHeld => ?_)
        clear hK K
        (try simp only [Act.put, List.setIfInBounds_toArray, List.set_cons_zero, List.set_cons_succ])
        refine rg_in 7 rfl (by kernel_rfl) (by kernel_rfl) (by kernel_rfl) (by rfl) (v := ?_) (fun _ _ _ h => h) hHeld (fun w hSw => ?_) ?_
        rotate_left
        · (try dsimp only at hSw); go_simp <;> (with_reducible rfl)
        (try simp only [Act.put, List.setIfInBounds_toArray, List.set_cons_zero, List.set_cons_succ])
        refine rg_in 8 rfl (by kernel_rfl) (by kernel_rfl) (by kernel_rfl) (by rfl) (v := ?_) (fun _ _ _ h => h) hHeld (fun w hSw => ?_) ?_
        rotate_left
        · (try dsimp only at hSw); go_simp <;> (with_reducible rfl)
        (try simp only [Act.put, List.setIfInBounds_toArray, List.set_cons_zero, List.set_cons_succ])
        refine rg_in 9 rfl (by kernel_rfl) (by kernel_rfl) (by kernel_rfl) (by rfl) (v := ?_) (fun _ _ _ h => h) hHeld (fun w hSw => ?_) ?_
        rotate_left
        · (try dsimp only at hSw); go_simp <;> (with_reducible rfl)
        (try simp only [Act.put, List.setIfInBounds_toArray, List.set_cons_zero, List.set_cons_succ])
        refine rg_do 11 rfl (by kernel_rfl) (by rfl) (fun K hK => ?_)
        have hV := Lib.hid (five_of_blk (blk_later hbox5 hb6))
        have hge := Nat.le_trans hHeld0_x.size hge10
        obtain ⟨⟨q0, q1, q2, q3, q4⟩, ⟨f0, f1, f2, f3, f4⟩⟩ := hV.out
        go_simp
        have hV11 := hV.out.set5 (a' := .int .i64 kb) (b' := .int .i64 nb) (c' := .string sb) (d' := .slice cAb cnb ccb) (e' := .slice kAb knb kcb)
        refine hK.out _ _ (hHeld.trans (vbelow_set5 (Below.refl _ _) hge)) (fun hHeld => ?_)
        clear hK K
        (try simp only [Act.put, List.setIfInBounds_toArray, List.set_cons_zero, List.set_cons_succ])
        refine rg_in 12 rfl (by kernel_rfl) (by kernel_rfl) (by kernel_rfl) (by rfl) (v := ?_) (fun _ _ _ h => h) hHeld (fun w hSw => ?_) ?_
        rotate_left
        · (try dsimp only at hSw); go_simp <;> (with_reducible rfl)
        (try simp only [Act.put, List.setIfInBounds_toArray, List.set_cons_zero, List.set_cons_succ])
        refine wpAnyH_done (by kernel_rfl) ?_ _
        go_wp2
        go_meet
        case rel => exact ⟨_, rfl, rfl, hge, Lib.hid hV11, hHeld⟩
      exact AllReadyH.nil
    case rest =>
      obtain ⟨g7, rfl, rfl, hg7, HV7, hbc⟩ := hcut
      rename World => W3
      have hb4 := bel_next hb3 hbc
      have Hv3 := Lib.hid (Hv2.out.later hbc)
      have H13 := Lib.hid (Shows.more (H1.out.below hbc) hbc.size)
      have H23 := Lib.hid (Shows.more (H2.out.below hbc) hbc.size)
      clear Hv2 hs12 hs22 HP hv0 hv1 hv2 hv3 hv4 hb3 hbc H1 H2 HPb
      obtain ⟨⟨v0, v1, v2, v3, v4⟩, -⟩ := Hv3.out
      go_wp2_with fail
      refine (HPh.out _ _ _ _ hb4 H13.out (Nat.le_refl _)).mono ?_
      rintro e W4 ⟨rfl, hb5⟩
      have hb6 := bel_next hb4 hb5
      have hb7 := bel_alloc hb6 (.cells #[.int .i64 kh, .int .i64 nh, .string sh, .slice cAh cnh cch, .slice kAh knh kch] 25)
      have Hv4 := Lib.hid ((Hv3.out.later hb5).alloc (.cells #[.int .i64 kh, .int .i64 nh, .string sh, .slice cAh cnh cch, .slice kAh knh kch] 25))
      have HV74 := Lib.hid ((HV7.out.later hb5).alloc (.cells #[.int .i64 kh, .int .i64 nh, .string sh, .slice cAh cnh cch, .slice kAh knh kch] 25))
      have HV94 := Lib.hid (VFive.new W4 (.int .i64 kh) (.int .i64 nh) (.string sh) (.slice cAh cnh cch) (.slice kAh knh kch) 25 W4.heap.size rfl)
      have H24 := Lib.hid (Shows.alloc (Shows.more (H23.out.below hb5) hb5.size) (Nat.le_refl _) (.cells #[.int .i64 kh, .int .i64 nh, .string sh, .slice cAh cnh cch, .slice kAh knh kch] 25))
      clear v0 v1 v2 v3 v4 Hv3 HV7 H13 H23 hb4 hb5 hb6 HPh
      cases rh with
      | none =>
        obtain rfl : rb = none := Htwo.out
        simp only [Option.isSome_none] at *
        go_wp2
        go_ret
        exact ⟨rfl, hb7⟩
      | some K =>
        obtain ⟨hTok, hKok, hKdep⟩ := Hok.out _ _ Hrh.out
        have HK := Lib.hid (Hlie.out _ _ Hrh.out)
        obtain rfl : K = .mk kh nh sh cAh cnh cch kAh knh kch keysh kidsh := HXh.out
        have hrw : rb = pathO _ L2 := Htwo.out
        have HP2 := Lib.hid (fun A c B2 W (h : Below w.heap.size w W) hS hB2 => path_O B W _ A m2 c L2 B2 (Hmono.out W W _ HK.out h) (Nat.le_trans hB h.size) hS hB2 (by omega) (HTx.out W h).1 (HTx.out W h).2)
        rw [← hrw, HXb.out] at HP2
        simp only [VT.agg] at HP2
        have Hrw := Lib.hid hrw
        clear hrw hKdep hTok hKok
        obtain ⟨⟨y0, y1, y2, y3, y4⟩, -⟩ := HV94.out
        go_wp2_with fail
        refine (HP2.out _ _ _ _ hb7 H24.out (by simp)).mono ?_
        rintro e W5 ⟨rfl, hb8⟩
        have hb9 := bel_next hb7 hb8
        have hb10 := bel_alloc hb9 (.cells #[.int .i64 kb, .int .i64 nb, .string sb, .slice cAb cnb ccb, .slice kAb knb kcb] 25)
        have Hv5 := Lib.hid ((Hv4.out.later hb8).alloc (.cells #[.int .i64 kb, .int .i64 nb, .string sb, .slice cAb cnb ccb, .slice kAb knb kcb] 25))
        have HV75 := Lib.hid ((HV74.out.later hb8).alloc (.cells #[.int .i64 kb, .int .i64 nb, .string sb, .slice cAb cnb ccb, .slice kAb knb kcb] 25))
        have HV115 := Lib.hid (VFive.new W5 (.int .i64 kb) (.int .i64 nb) (.string sb) (.slice cAb cnb ccb) (.slice kAb knb kcb) 25 W5.heap.size rfl)
        clear y0 y1 y2 y3 y4 Hv4 HV74 HV94 H24 hb7 hb8 hb9 HP2
        go_upto_region 9 with fail
        generalize (W5.alloc (.cells #[.int .i64 kb, .int .i64 nb, .string sb, .slice cAb cnb ccb, .slice kAb knb kcb] 25)) = W9 at *
        have hbc9 := hb10
        cases rb with
        | none =>
          simp only [Option.isSome_none] at *
          refine wp_region_held_drew (S := fun W => Below W9.heap.size W9 W) (by kernel_rfl) (below_drewN (Below.refl _ _) 1) (fun hHeld => ?_)
          refine rg_in 0 rfl (by kernel_rfl) (by kernel_rfl) (by kernel_rfl) (by rfl) (v := ?_) (fun _ _ _ h => h) hHeld (fun w hSw => ?_) ?_
          rotate_left
          · (try dsimp only at hSw); go_simp <;> (with_reducible rfl)
          (try simp only [Act.put, List.setIfInBounds_toArray, List.set_cons_zero, List.set_cons_succ])
          refine rg_in 1 rfl (by kernel_rfl) (by kernel_rfl) (by kernel_rfl) (by rfl) (v := ?_) (fun _ _ _ h => h) hHeld (fun w hSw => ?_) ?_
          rotate_left
          · (try dsimp only at hSw); go_simp <;> (with_reducible rfl)
          (try simp only [Act.put, List.setIfInBounds_toArray, List.set_cons_zero, List.set_cons_succ])
          refine rg_in 2 rfl (by kernel_rfl) (by kernel_rfl) (by kernel_rfl) (by rfl) (v := ?_) (fun _ _ _ h => h) hHeld (fun w hSw => ?_) ?_
          rotate_left
          · (try dsimp only at hSw); go_simp <;> (with_reducible rfl)
          (try simp only [Act.put, List.setIfInBounds_toArray, List.set_cons_zero, List.set_cons_succ])
          refine rg_in 3 rfl (by kernel_rfl) (by kernel_rfl) (by kernel_rfl) (by rfl) (v := ?_) (fun _ _ _ h => h) hHeld (fun w hSw => ?_) ?_
          rotate_left
          · (try dsimp only at hSw); go_simp <;> (with_reducible rfl)
          (try simp only [Act.put, List.setIfInBounds_toArray, List.set_cons_zero, List.set_cons_succ])
          refine rg_in 4 rfl (by kernel_rfl) (by kernel_rfl) (by kernel_rfl) (by rfl) (v := ?_) (fun _ _ _ h => h) hHeld (fun w hSw => ?_) ?_
          rotate_left
          · (try dsimp only at hSw); go_simp <;> (with_reducible rfl)
          (try simp only [Act.put, List.setIfInBounds_toArray, List.set_cons_zero, List.set_cons_succ])
          refine rg_in 5 rfl (by kernel_rfl) (by kernel_rfl) (by kernel_rfl) (by rfl) (v := ?_) (fun _ _ _ h => h) hHeld (fun w hSw => ?_) ?_
          rotate_left
          · (try dsimp only at hSw); go_simp <;> (with_reducible rfl)
          (try simp only [Act.put, List.setIfInBounds_toArray, List.set_cons_zero, List.set_cons_succ])
          refine rg_in 6 rfl (by kernel_rfl) (by kernel_rfl) (by kernel_rfl) (by rfl) (v := ?_) (fun _ _ _ h => h) hHeld (fun w hSw => ?_) ?_
          rotate_left
          · (try dsimp only at hSw); go_simp <;> (with_reducible rfl)
          (try simp only [Act.put, List.setIfInBounds_toArray, List.set_cons_zero, List.set_cons_succ])
          refine rg_off 7 rfl (by kernel_rfl) (by kernel_rfl) (by kernel_rfl) (by rfl) (fun _ _ _ h => h) hHeld ?_
          (try simp only [Act.put, List.setIfInBounds_toArray, List.set_cons_zero, List.set_cons_succ])
          refine rg_off 8 rfl (by kernel_rfl) (by kernel_rfl) (by kernel_rfl) (by rfl) (fun _ _ _ h => h) hHeld ?_
          (try simp only [Act.put, List.setIfInBounds_toArray, List.set_cons_zero, List.set_cons_succ])
          refine rg_off 9 rfl (by kernel_rfl) (by kernel_rfl) (by kernel_rfl) (by rfl) (fun _ _ _ h => h) hHeld ?_
          (try simp only [Act.put, List.setIfInBounds_toArray, List.set_cons_zero, List.set_cons_succ])
          refine rg_off 10 rfl (by kernel_rfl) (by kernel_rfl) (by kernel_rfl) (by rfl) (fun _ _ _ h => h) hHeld ?_
          (try simp only [Act.put, List.setIfInBounds_toArray, List.set_cons_zero, List.set_cons_succ])
          refine rg_off 11 rfl (by kernel_rfl) (by kernel_rfl) (by kernel_rfl) (by rfl) (fun _ _ _ h => h) hHeld ?_
          (try simp only [Act.put, List.setIfInBounds_toArray, List.set_cons_zero, List.set_cons_succ])
          refine rg_off 12 rfl (by kernel_rfl) (by kernel_rfl) (by kernel_rfl) (by rfl) (fun _ _ _ h => h) hHeld ?_
          (try simp only [Act.put, List.setIfInBounds_toArray, List.set_cons_zero, List.set_cons_succ])
          refine rg_off 13 rfl (by kernel_rfl) (by kernel_rfl) (by kernel_rfl) (by rfl) (fun _ _ _ h => h) hHeld ?_
          (try simp only [Act.put, List.setIfInBounds_toArray, List.set_cons_zero, List.set_cons_succ])
          refine rg_off 14 rfl (by kernel_rfl) (by kernel_rfl) (by kernel_rfl) (by rfl) (fun _ _ _ h => h) hHeld ?_
          (try simp only [Act.put, List.setIfInBounds_toArray, List.set_cons_zero, List.set_cons_succ])
          refine rg_off 15 rfl (by kernel_rfl) (by kernel_rfl) (by kernel_rfl) (by rfl) (fun _ _ _ h => h) hHeld ?_
          (try simp only [Act.put, List.setIfInBounds_toArray, List.set_cons_zero, List.set_cons_succ])
          refine rg_off 16 rfl (by kernel_rfl) (by kernel_rfl) (by kernel_rfl) (by rfl) (fun _ _ _ h => h) hHeld ?_
          (try simp only [Act.put, List.setIfInBounds_toArray, List.set_cons_zero, List.set_cons_succ])
          refine rg_off 17 rfl (by kernel_rfl) (by kernel_rfl) (by kernel_rfl) (by rfl) (fun _ _ _ h => h) hHeld ?_
          (try simp only [Act.put, List.setIfInBounds_toArray, List.set_cons_zero, List.set_cons_succ])
          refine rg_off 18 rfl (by kernel_rfl) (by kernel_rfl) (by kernel_rfl) (by rfl) (fun _ _ _ h => h) hHeld ?_
          (try simp only [Act.put, List.setIfInBounds_toArray, List.set_cons_zero, List.set_cons_succ])
          refine rg_off 19 rfl (by kernel_rfl) (by kernel_rfl) (by kernel_rfl) (by rfl) (fun _ _ _ h => h) hHeld ?_
          (try simp only [Act.put, List.setIfInBounds_toArray, List.set_cons_zero, List.set_cons_succ])
          refine rg_off 20 rfl (by kernel_rfl) (by kernel_rfl) (by kernel_rfl) (by rfl) (fun _ _ _ h => h) hHeld ?_
          (try simp only [Act.put, List.setIfInBounds_toArray, List.set_cons_zero, List.set_cons_succ])
          refine rg_off 21 rfl (by kernel_rfl) (by kernel_rfl) (by kernel_rfl) (by rfl) (fun _ _ _ h => h) hHeld ?_
          (try simp only [Act.put, List.setIfInBounds_toArray, List.set_cons_zero, List.set_cons_succ])
          refine rg_off 22 rfl (by kernel_rfl) (by kernel_rfl) (by kernel_rfl) (by rfl) (fun _ _ _ h => h) hHeld ?_
          (try simp only [Act.put, List.setIfInBounds_toArray, List.set_cons_zero, List.set_cons_succ])
          refine rg_in 23 rfl (by kernel_rfl) (by kernel_rfl) (by kernel_rfl) (by rfl) (v := ?_) (fun _ _ _ h => h) hHeld (fun w hSw => ?_) ?_
          rotate_left
          · (try dsimp only at hSw); go_simp <;> (with_reducible rfl)
          (try simp only [Act.put, List.setIfInBounds_toArray, List.set_cons_zero, List.set_cons_succ])
          refine rg_in 24 rfl (by kernel_rfl) (by kernel_rfl) (by kernel_rfl) (by rfl) (v := ?_) (fun _ _ _ h => h) hHeld (fun w hSw => ?_) ?_
          rotate_left
          · (try dsimp only at hSw); go_simp <;> (with_reducible rfl)
          (try simp only [Act.put, List.setIfInBounds_toArray, List.set_cons_zero, List.set_cons_succ])
          refine rg_in 25 rfl (by kernel_rfl) (by kernel_rfl) (by kernel_rfl) (by rfl) (v := ?_) (fun _ _ _ h => h) hHeld (fun w hSw => ?_) ?_
          rotate_left
          · (try dsimp only at hSw); go_simp <;> (with_reducible rfl)
          (try simp only [Act.put, List.setIfInBounds_toArray, List.set_cons_zero, List.set_cons_succ])
          refine wpAnyH_done (by kernel_rfl) ?_ _
          go_wp2
          go_ret
          exact ⟨rfl, bel_next hbc9 hHeld⟩
        | some X =>
          obtain ⟨hTok, hXok, hXdep⟩ := Hok.out _ _ (show pathO _ (L1 ++ L2) = some X from (by rw [pathO_two, Hrh.out]; exact Hrw.out.symm))
          have HX := Lib.hid (Hlie.out _ _ (show pathO _ (L1 ++ L2) = some X from (by rw [pathO_two, Hrh.out]; exact Hrw.out.symm)))
          obtain rfl : X = .mk kb nb sb cAb cnb ccb kAb knb kcb keysb kidsb := HXb.out
          rw [List.length_append, hlen1, hlen2] at hXdep
          have hdX : (VT.mk kb nb sb cAb cnb ccb kAb knb kcb keysb kidsb).depR = (VT.mk kb nb sb cAb cnb ccb kAb knb kcb keysb kidsb).dep := by unfold VT.depR; rw [if_pos hXok]
          have hdT : dT = (VT.mk k n s cA cn cc kA kn kc keys kids).dep := by rw [← HdT.out]; unfold VT.depR; rw [if_pos hTok]
          have hT8 := (ok_bounds hTok).1
          have HXS := Lib.hid (fun W (h : Below w.heap.size w W) => same_any B W _ _ (Hmono.out W W _ HX.out h) (Hmono.out W W _ HX.out h) (Nat.le_trans hB h.size) (HTx.out W h).1 (HTx.out W h).2)
          have HXD := Lib.hid (fun W (h : Below w.heap.size w W) => depth_any B W _ (Hmono.out W W _ HX.out h) (Nat.le_trans hB h.size) (HTx.out W h).1 (HTx.out W h).2)
          rw [sameR_self _ hXok] at HXS
          rw [hdX] at HXD
          rw [← hdT] at hXdep hT8
          generalize (VT.mk kb nb sb cAb cnb ccb kAb knb kcb keysb kidsb).dep = dX at *
          have HXS := Lib.hid (fun W (h : Below W9.heap.size W9 W) => HXS.out W (bel_next hb10 h))
          have HXD := Lib.hid (fun W (h : Below W9.heap.size W9 W) => HXD.out W (bel_next hb10 h))
          have HTD := Lib.hid (fun W (h : Below W9.heap.size W9 W) => HTD.out W (bel_next hb10 h))
          simp only [VT.agg] at HXS HXD HTD
          obtain ⟨s1, hs1⟩ : ∃ s, s = dX + m1 := ⟨_, rfl⟩
          obtain ⟨s2, hs2⟩ : ∃ s, s = s1 + m2 := ⟨_, rfl⟩
          have hw1 : IntKind.i64.wrap ((dX : Int) + (m1 : Int)) = (s1 : Int) := by rw [IntKind.wrap_i64]; omega
          have hw2 : IntKind.i64.wrap ((s1 : Int) + (m2 : Int)) = (s2 : Int) := by rw [IntKind.wrap_i64]; omega
          have hle : ((s2 : Int) ≤ (dT : Int)) = True := by simp; omega
          have hle2 : decide ((s2 : Int) ≤ (dT : Int)) = true := by simp; omega
          have hx0 : ∀ W, Below W9.heap.size W9 W → W.cell? ⟨g7, 0, none⟩ = some (.int .i64 kb) := fun W h => (HV75.out.later h).1.1
          have hx1 : ∀ W, Below W9.heap.size W9 W → W.cell? ⟨g7, 1, none⟩ = some (.int .i64 nb) := fun W h => (HV75.out.later h).1.2.1
          have hx2 : ∀ W, Below W9.heap.size W9 W → W.cell? ⟨g7, 2, none⟩ = some (.string sb) := fun W h => (HV75.out.later h).1.2.2.1
          have hx3 : ∀ W, Below W9.heap.size W9 W → W.cell? ⟨g7, 3, none⟩ = some (.slice cAb cnb ccb) := fun W h => (HV75.out.later h).1.2.2.2.1
          have hx4 : ∀ W, Below W9.heap.size W9 W → W.cell? ⟨g7, 4, none⟩ = some (.slice kAb knb kcb) := fun W h => (HV75.out.later h).1.2.2.2.2
          have hy0 : ∀ W, Below W9.heap.size W9 W → W.cell? ⟨W5.heap.size, 0, none⟩ = some (.int .i64 kb) := fun W h => (HV115.out.later h).1.1
          have hy1 : ∀ W, Below W9.heap.size W9 W → W.cell? ⟨W5.heap.size, 1, none⟩ = some (.int .i64 nb) := fun W h => (HV115.out.later h).1.2.1
          have hy2 : ∀ W, Below W9.heap.size W9 W → W.cell? ⟨W5.heap.size, 2, none⟩ = some (.string sb) := fun W h => (HV115.out.later h).1.2.2.1
          have hy3 : ∀ W, Below W9.heap.size W9 W → W.cell? ⟨W5.heap.size, 3, none⟩ = some (.slice cAb cnb ccb) := fun W h => (HV115.out.later h).1.2.2.2.1
          have hy4 : ∀ W, Below W9.heap.size W9 W → W.cell? ⟨W5.heap.size, 4, none⟩ = some (.slice kAb knb kcb) := fun W h => (HV115.out.later h).1.2.2.2.2
          have hv0 : ∀ W, Below W9.heap.size W9 W → W.cell? ⟨w.heap.size, 0, none⟩ = some (.int .i64 k) := fun W h => (Hv5.out.later h).1.1
          have hv1 : ∀ W, Below W9.heap.size W9 W → W.cell? ⟨w.heap.size, 1, none⟩ = some (.int .i64 n) := fun W h => (Hv5.out.later h).1.2.1
          have hv2 : ∀ W, Below W9.heap.size W9 W → W.cell? ⟨w.heap.size, 2, none⟩ = some (.string s) := fun W h => (Hv5.out.later h).1.2.2.1
          have hv3 : ∀ W, Below W9.heap.size W9 W → W.cell? ⟨w.heap.size, 3, none⟩ = some (.slice cA cn cc) := fun W h => (Hv5.out.later h).1.2.2.2.1
          have hv4 : ∀ W, Below W9.heap.size W9 W → W.cell? ⟨w.heap.size, 4, none⟩ = some (.slice kA kn kc) := fun W h => (Hv5.out.later h).1.2.2.2.2
          have hw3 : IntKind.i64.wrap ((dX : Int) + (m1 : Int) + (m2 : Int)) = (s2 : Int) := by rw [IntKind.wrap_i64]; omega
          clear hs1 hs2 hdT hdX hXdep hT8
          simp only [Option.isSome_some] at *
          refine wp_region_held_drew (S := fun W => Below W9.heap.size W9 W) (by kernel_rfl) (below_drewN (Below.refl _ _) 1) (fun hHeld => ?_)
          refine rg_in 0 rfl (by kernel_rfl) (by kernel_rfl) (by kernel_rfl) (by rfl) (v := ?_) (fun _ _ _ h => h) hHeld (fun w hSw => ?_) ?_
          rotate_left
          · (try dsimp only at hSw); go_simp <;> (with_reducible rfl)
          (try simp only [Act.put, List.setIfInBounds_toArray, List.set_cons_zero, List.set_cons_succ])
          refine rg_in 1 rfl (by kernel_rfl) (by kernel_rfl) (by kernel_rfl) (by rfl) (v := ?_) (fun _ _ _ h => h) hHeld (fun w hSw => ?_) ?_
          rotate_left
          · (try dsimp only at hSw); go_simp <;> (with_reducible rfl)
          (try simp only [Act.put, List.setIfInBounds_toArray, List.set_cons_zero, List.set_cons_succ])
          refine rg_in 2 rfl (by kernel_rfl) (by kernel_rfl) (by kernel_rfl) (by rfl) (v := ?_) (fun _ _ _ h => h) hHeld (fun w hSw => ?_) ?_
          rotate_left
          · (try dsimp only at hSw); go_simp <;> (with_reducible rfl)
          (try simp only [Act.put, List.setIfInBounds_toArray, List.set_cons_zero, List.set_cons_succ])
          refine rg_in 3 rfl (by kernel_rfl) (by kernel_rfl) (by kernel_rfl) (by rfl) (v := ?_) (fun _ _ _ h => h) hHeld (fun w hSw => ?_) ?_
          rotate_left
          · (try dsimp only at hSw); go_simp <;> (with_reducible rfl)
          (try simp only [Act.put, List.setIfInBounds_toArray, List.set_cons_zero, List.set_cons_succ])
          refine rg_in 4 rfl (by kernel_rfl) (by kernel_rfl) (by kernel_rfl) (by rfl) (v := ?_) (fun _ _ _ h => h) hHeld (fun w hSw => ?_) ?_
          rotate_left
          · (try dsimp only at hSw); go_simp <;> (with_reducible rfl)
          (try simp only [Act.put, List.setIfInBounds_toArray, List.set_cons_zero, List.set_cons_succ])
          refine rg_in 5 rfl (by kernel_rfl) (by kernel_rfl) (by kernel_rfl) (by rfl) (v := ?_) (fun _ _ _ h => h) hHeld (fun w hSw => ?_) ?_
          rotate_left
          · (try dsimp only at hSw); go_simp <;> (with_reducible rfl)
          (try simp only [Act.put, List.setIfInBounds_toArray, List.set_cons_zero, List.set_cons_succ])
          refine rg_in 6 rfl (by kernel_rfl) (by kernel_rfl) (by kernel_rfl) (by rfl) (v := ?_) (fun _ _ _ h => h) hHeld (fun w hSw => ?_) ?_
          rotate_left
          · (try dsimp only at hSw); go_simp <;> (with_reducible rfl)
          (try simp only [Act.put, List.setIfInBounds_toArray, List.set_cons_zero, List.set_cons_succ])
          refine rg_in 7 rfl (by kernel_rfl) (by kernel_rfl) (by kernel_rfl) (by rfl) (v := ?_) (fun _ _ _ h => h) hHeld (fun w hSw => ?_) ?_
          rotate_left
          · (try dsimp only at hSw); go_simp <;> (with_reducible rfl)
          (try simp only [Act.put, List.setIfInBounds_toArray, List.set_cons_zero, List.set_cons_succ])
          refine rg_in 8 rfl (by kernel_rfl) (by kernel_rfl) (by kernel_rfl) (by rfl) (v := ?_) (fun _ _ _ h => h) hHeld (fun w hSw => ?_) ?_
          rotate_left
          · (try dsimp only at hSw); go_simp <;> (with_reducible rfl)
          (try simp only [Act.put, List.setIfInBounds_toArray, List.set_cons_zero, List.set_cons_succ])
          refine rg_do 9 rfl (by kernel_rfl) (by rfl) (fun K hK => ?_)
          go_simp
          (go_at_call 13; (with_reducible refine (HXS.out _ hHeld).mono ?_); (rintro e w109 ⟨rfl, hb9⟩))
          refine hK.out _ _ (S_call hb9 hHeld rfl) (fun hHeld => ?_)
          clear hK K
          (try simp only [Act.put, List.setIfInBounds_toArray, List.set_cons_zero, List.set_cons_succ])
          refine rg_in 10 rfl (by kernel_rfl) (by kernel_rfl) (by kernel_rfl) (by rfl) (v := ?_) (fun _ _ _ h => h) hHeld (fun w hSw => ?_) ?_
          rotate_left
          · (try dsimp only at hSw); go_simp <;> (with_reducible rfl)
          (try simp only [Act.put, List.setIfInBounds_toArray, List.set_cons_zero, List.set_cons_succ])
          refine rg_in 11 rfl (by kernel_rfl) (by kernel_rfl) (by kernel_rfl) (by rfl) (v := ?_) (fun _ _ _ h => h) hHeld (fun w hSw => ?_) ?_
          rotate_left
          · (try dsimp only at hSw); go_simp <;> (with_reducible rfl)
          (try simp only [Act.put, List.setIfInBounds_toArray, List.set_cons_zero, List.set_cons_succ])
          refine rg_in 13 rfl (by kernel_rfl) (by kernel_rfl) (by kernel_rfl) (by rfl) (v := ?_) (fun _ _ _ h => h) hHeld (fun w hSw => ?_) ?_
          rotate_left
          · (try dsimp only at hSw); go_simp <;> (with_reducible rfl)
          (try simp only [Act.put, List.setIfInBounds_toArray, List.set_cons_zero, List.set_cons_succ])
          refine rg_in 14 rfl (by kernel_rfl) (by kernel_rfl) (by kernel_rfl) (by rfl) (v := ?_) (fun _ _ _ h => h) hHeld (fun w hSw => ?_) ?_
          rotate_left
          · (try dsimp only at hSw); go_simp <;> (with_reducible rfl)
          (try simp only [Act.put, List.setIfInBounds_toArray, List.set_cons_zero, List.set_cons_succ])
          refine rg_in 16 rfl (by kernel_rfl) (by kernel_rfl) (by kernel_rfl) (by rfl) (v := ?_) (fun _ _ _ h => h) hHeld (fun w hSw => ?_) ?_
          rotate_left
          · (try dsimp only at hSw); go_simp <;> (with_reducible rfl)
          (try simp only [Act.put, List.setIfInBounds_toArray, List.set_cons_zero, List.set_cons_succ])
          refine rg_in 17 rfl (by kernel_rfl) (by kernel_rfl) (by kernel_rfl) (by rfl) (v := ?_) (fun _ _ _ h => h) hHeld (fun w hSw => ?_) ?_
          rotate_left
          · (try dsimp only at hSw); go_simp <;> (with_reducible rfl)
          (try simp only [Act.put, List.setIfInBounds_toArray, List.set_cons_zero, List.set_cons_succ])
          refine rg_in 19 rfl (by kernel_rfl) (by kernel_rfl) (by kernel_rfl) (by rfl) (v := ?_) (fun _ _ _ h => h) hHeld (fun w hSw => ?_) ?_
          rotate_left
          · (try dsimp only at hSw); go_simp <;> (with_reducible rfl)
          (try simp only [Act.put, List.setIfInBounds_toArray, List.set_cons_zero, List.set_cons_succ])
          refine rg_do 12 rfl (by kernel_rfl) (by rfl) (fun K hK => ?_)
          go_simp
          (go_at_call 15; (with_reducible refine (HXD.out _ hHeld).mono ?_); (rintro e w112 ⟨rfl, hb12⟩))
          refine hK.out _ _ (S_call hb12 hHeld rfl) (fun hHeld => ?_)
          clear hK K
          (try simp only [Act.put, List.setIfInBounds_toArray, List.set_cons_zero, List.set_cons_succ])
          refine rg_in 15 rfl (by kernel_rfl) (by kernel_rfl) (by kernel_rfl) (by rfl) (v := ?_) (fun _ _ _ h => h) hHeld (fun w hSw => ?_) ?_
          rotate_left
          · (try dsimp only at hSw); go_simp <;> (with_reducible rfl)
          (try simp only [Act.put, List.setIfInBounds_toArray, List.set_cons_zero, List.set_cons_succ])
          refine rg_in 18 rfl (by kernel_rfl) (by kernel_rfl) (by kernel_rfl) (by rfl) (v := ?_) (fun _ _ _ h => h) hHeld (fun w hSw => ?_) ?_
          rotate_left
          · (try dsimp only at hSw); go_simp <;> (with_reducible rfl)
          (try simp only [Act.put, List.setIfInBounds_toArray, List.set_cons_zero, List.set_cons_succ])
          refine rg_do 20 rfl (by kernel_rfl) (by rfl) (fun K hK => ?_)
          go_simp
          (go_at_call 15; (with_reducible refine (HTD.out _ hHeld).mono ?_); (rintro e w120 ⟨rfl, hb20⟩))
          refine hK.out _ _ (S_call hb20 hHeld rfl) (fun hHeld => ?_)
          clear hK K
          (try simp only [Act.put, List.setIfInBounds_toArray, List.set_cons_zero, List.set_cons_succ])
          refine rg_in 21 rfl (by kernel_rfl) (by kernel_rfl) (by kernel_rfl) (by rfl) (v := ?_) (fun _ _ _ h => h) hHeld (fun w hSw => ?_) ?_
          rotate_left
          · (try dsimp only at hSw); go_simp <;> (with_reducible rfl)
          (try simp only [Act.put, List.setIfInBounds_toArray, List.set_cons_zero, List.set_cons_succ])
          refine rg_in 22 rfl (by kernel_rfl) (by kernel_rfl) (by kernel_rfl) (by rfl) (v := ?_) (fun _ _ _ h => h) hHeld (fun w hSw => ?_) ?_
          rotate_left
          · (try dsimp only at hSw); go_simp <;> (with_reducible rfl)
          (try simp only [Act.put, List.setIfInBounds_toArray, List.set_cons_zero, List.set_cons_succ])
          refine rg_in 23 rfl (by kernel_rfl) (by kernel_rfl) (by kernel_rfl) (by rfl) (v := ?_) (fun _ _ _ h => h) hHeld (fun w hSw => ?_) ?_
          rotate_left
          · (try dsimp only at hSw); go_simp <;> (with_reducible rfl)
          (try simp only [Act.put, List.setIfInBounds_toArray, List.set_cons_zero, List.set_cons_succ])
          refine rg_in 24 rfl (by kernel_rfl) (by kernel_rfl) (by kernel_rfl) (by rfl) (v := ?_) (fun _ _ _ h => h) hHeld (fun w hSw => ?_) ?_
          rotate_left
          · (try dsimp only at hSw); go_simp <;> (with_reducible rfl)
          (try simp only [Act.put, List.setIfInBounds_toArray, List.set_cons_zero, List.set_cons_succ])
          refine rg_in 25 rfl (by kernel_rfl) (by kernel_rfl) (by kernel_rfl) (by rfl) (v := ?_) (fun _ _ _ h => h) hHeld (fun w hSw => ?_) ?_
          rotate_left
          · (try dsimp only at hSw); go_simp <;> (with_reducible rfl)
          (try simp only [Act.put, List.setIfInBounds_toArray, List.set_cons_zero, List.set_cons_succ])
          refine wpAnyH_done (by kernel_rfl) ?_ _
          go_wp2
          go_ret
          exact ⟨rfl, bel_next hbc9 hHeld⟩
theorem valuePaths_walk (W : World) (T : VT) (hT : Lie W W.heap.size T) (a1 : Option Addr) (len1 cap1 : Nat) (l1 : List ByteArray) (b1 : Shows W W.heap.size 1 a1 len1 (l1.map Value.string)) (ok1 : ∀ x ∈ l1, x.size ≤ maxLen) (z1 : a1 = none → cap1 = 0) (y1 : len1 ≤ cap1) (x1 : cap1 ≤ maxLen)
    (a2 : Option Addr) (len2 cap2 : Nat) (l2 : List ByteArray) (b2 : Shows W W.heap.size 1 a2 len2 (l2.map Value.string)) (ok2 : ∀ x ∈ l2, x.size ≤ maxLen) (z2 : a2 = none → cap2 = 0) (y2 : len2 ≤ cap2) (x2 : cap2 ≤ maxLen) (htab : UTab W) (hst : STab W) :
    Calls Tryd.prog 8 #[T.agg, .slice a1 len1 cap1, .slice a2 len2 cap2] W fun e w' => e = .returned (.bool true) ∧ Below W.heap.size W w' :=
  vpaths_any W T a1 len1 cap1 l1 a2 len2 cap2 l2 W.heap.size hT (Nat.le_refl _) b1 b2 y1 x1 y2 x2 htab hst
end Go.Proofs.YtnldiemggabdkaaDoor
