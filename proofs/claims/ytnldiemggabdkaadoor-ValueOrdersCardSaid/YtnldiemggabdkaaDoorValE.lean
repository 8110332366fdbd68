/-
  Layer 4: equal; slices.Equal at strings; slices.EqualFunc at values.
-/
import Derived.Test.YtnldiemggabdkaaDoorValQ
namespace Go.Proofs.YtnldiemggabdkaaDoor
open Go.RowKit
set_option linter.unusedVariables false

/-- A value without its slices' heads. -/
inductive ET where
  | mk (k n : Int) (s : ByteArray) (keys : List ByteArray) (kids : List ET)
def VT.e : VT → ET | .mk k n s _ _ _ _ _ _ keys kids => .mk k n s keys (kids.attach.map fun x => x.1.e)
termination_by T => SizeOf.sizeOf T
decreasing_by
  have := List.sizeOf_lt_of_mem x.2
  simp only [VT.mk.sizeOf_spec]
  omega
theorem e_mk (k n : Int) (s : ByteArray) (cA : Option Addr) (cn cc : Nat) (kA : Option Addr) (kn kc : Nat) (keys : List ByteArray) (kids : List VT) : (VT.mk k n s cA cn cc kA kn kc keys kids).e = .mk k n s keys (kids.map VT.e) := by
  rw [VT.e, attach_map kids VT.e]
noncomputable def sameV (T T' : VT) : Bool := @decide (T.e = T'.e) (Classical.propDecidable _)
noncomputable def sameVL (l l' : List VT) : Bool := @decide (l.map VT.e = l'.map VT.e) (Classical.propDecidable _)
theorem sameV_iff (T T' : VT) : sameV T T' = true ↔ T.e = T'.e := by unfold sameV; exact @decide_eq_true_iff _ (Classical.propDecidable _)
theorem sameVL_iff (l l' : List VT) : sameVL l l' = true ↔ l.map VT.e = l'.map VT.e := by unfold sameVL; exact @decide_eq_true_iff _ (Classical.propDecidable _)
theorem bool_no {b : Bool} {P : Prop} (h : b = true ↔ P) (hn : ¬ P) : b = false := by cases b; rfl; exact absurd (h.1 rfl) hn
theorem str_ne {s t : ByteArray} (h : s ≠ t) : (s.toList == t.toList) = false := by
  rw [beq_eq_false_iff_ne]
  intro e
  rw [ByteArray.toList_eq, ByteArray.toList_eq] at e
  exact h (ByteArray.ext (Array.toList_inj.1 e))
theorem str_eq (s : ByteArray) : (s.toList == s.toList) = true := by simp

set_option maxRecDepth 20000 in
set_option maxHeartbeats 1000000 in
theorem equalS_any (A1 A2 : Option Addr) (n1 c1 n2 c2 : Nat) (l1 l2 : List ByteArray) (B1 B2 : Nat) (w : World) (h1 : Shows w B1 1 A1 n1 (l1.map Value.string)) (h2 : Shows w B2 1 A2 n2 (l2.map Value.string)) (hm1 : n1 ≤ maxLen) :
    Calls Tryd.prog 53 #[.slice A1 n1 c1, .slice A2 n2 c2] w fun e w' => e = .returned (.bool (decide (l1 = l2))) ∧ ∃ k, w' = w.drewN k := by
  unfold maxLen at hm1
  have H1 := Lib.hid (keys_len h1)
  have H2 := Lib.hid (keys_len h2)
  by_cases hn : n1 = n2
  · subst hn
    go_enter Tryd.func53, Tryd.ntmps53
    go_wp2
    go_loopw [13] (fun i wr => ∃ k : Nat, k ≤ n1 ∧ i = .int .i64 k ∧ (∀ q, q < k → l1.getD q ⟨#[]⟩ = l2.getD q ⟨#[]⟩) ∧ ∃ m, wr = w.drewN m) (fun i _ => n1 - (intOf i).toNat)
    case atStart => exact ⟨0, Nat.zero_le _, rfl, fun q h => by omega, 0, rfl⟩
    case round =>
      obtain ⟨k, hk, rfl, ht, m, rfl⟩ := hrel
      by_cases hlt : k < n1
      · obtain ⟨b1, o1, rfl, _, hc1⟩ := key_at h1 hlt
        obtain ⟨b2, o2, rfl, _, hc2⟩ := key_at h2 hlt
        have hlt' : (k : Int) < n1 := by omega
        have hk0 : (0 : Int) ≤ k := by omega
        by_cases hx : l1.getD k ⟨#[]⟩ = l2.getD k ⟨#[]⟩
        · have ht' := Lib.hid (show ∀ q, q < k + 1 → l1.getD q ⟨#[]⟩ = l2.getD q ⟨#[]⟩ from fun q h => if e : q = k then e ▸ hx else ht q (by omega))
          rw [hx] at hc1
          clear ht hx
          generalize l2.getD k ⟨#[]⟩ = x at *
          have hb : (x.toList == x.toList) = true := str_eq x
          have hb2 : (x.toList != x.toList) = false := by simp
          go_wp2
          go_quiet (fail)
          go_wp2
          go_roundw
          case rel => exact ⟨k + 1, by omega, by go_num, ht'.out, _, rfl⟩
          case measure => simp [intOf]; omega
        · have hs := Lib.hid (show decide (l1 = l2) = false from decide_eq_false fun h => hx (by rw [h]))
          have hb := str_ne hx
          have hb2 : ((l1.getD k ⟨#[]⟩).toList != (l2.getD k ⟨#[]⟩).toList) = true := by rw [bne, hb]; rfl
          clear ht hx
          generalize l1.getD k ⟨#[]⟩ = x at *
          generalize l2.getD k ⟨#[]⟩ = y at *
          go_wp2
          go_quiet (fail)
          go_wp2
          go_ret
          exact ⟨by rw [hs.out]; rfl, _, World.drewN_drewN _ _ _⟩
      · have hk' : k = n1 := by omega
        have hs := Lib.hid (show decide (l1 = l2) = true by
          apply decide_eq_true
          apply List.ext_getElem (by rw [H1.out, H2.out])
          intro i hi1 hi2
          have := ht i (by rw [H1.out] at hi1; omega)
          rw [List.getD_eq_getElem?_getD, List.getD_eq_getElem?_getD, List.getElem?_eq_getElem hi1, List.getElem?_eq_getElem hi2] at this
          exact this)
        subst hk'
        clear ht
        go_wp2
        go_ret
        exact ⟨by rw [hs.out]; rfl, m, rfl⟩
  · have hb : ((n1 : Int) != (n2 : Int)) = true := by rw [bne_iff_ne]; omega
    have hs := Lib.hid (show decide (l1 = l2) = false from decide_eq_false fun h => hn (by rw [← H1.out, ← H2.out, h]))
    go_enter Tryd.func53, Tryd.ntmps53
    go_wp2
    go_ret
    exact ⟨by rw [hs.out]; rfl, 0, rfl⟩

set_option maxRecDepth 20000 in
set_option maxHeartbeats 1000000 in
theorem equalF_any (A1 A2 : Option Addr) (n1 c1 n2 c2 : Nat) (l1 l2 : List VT) (B1 B2 : Nat) (w : World) (h1 : Shows w B1 5 A1 n1 (l1.flatMap VT.cells)) (h2 : Shows w B2 5 A2 n2 (l2.flatMap VT.cells)) (hm1 : n1 ≤ maxLen) (hm2 : n2 ≤ maxLen) (hB1 : B1 ≤ w.heap.size) (hB2 : B2 ≤ w.heap.size)
    (he : ∀ (i : Nat) (x y : VT) (W : World), l1[i]? = some x → l2[i]? = some y → Below w.heap.size w W → Calls Tryd.prog 39 #[x.agg, y.agg] W fun e W' => e = .returned (.bool (sameV x y)) ∧ Below W.heap.size W W') :
    Calls Tryd.prog 54 #[.slice A1 n1 c1, .slice A2 n2 c2, .func (.func 39) #[] #[]] w fun e w' => e = .returned (.bool (sameVL l1 l2)) ∧ Below w.heap.size w w' := by
  unfold maxLen at hm1 hm2
  have H1 := Lib.hid (kids_len h1)
  have H2 := Lib.hid (kids_len h2)
  by_cases hn : n1 = n2
  · subst hn
    go_enter Tryd.func54, Tryd.ntmps54
    go_wp2
    go_loopw [17] (fun i wr => ∃ k : Nat, k ≤ n1 ∧ i = .int .i64 k ∧ Hid (∀ q x y, q < k → l1[q]? = some x → l2[q]? = some y → x.e = y.e) ∧ Below w.heap.size w wr) (fun i _ => n1 - (intOf i).toNat)
    case atStart => exact ⟨0, Nat.zero_le _, rfl, Lib.hid (fun q x y h => by omega), Below.refl _ _⟩
    case round =>
      obtain ⟨k, hk, rfl, ht, hbr⟩ := hrel
      by_cases hlt : k < n1
      · obtain ⟨b1, o1, x, rfl, _, hx, hf1⟩ := kids_at (h1.below (hbr.mono hB1)) hlt
        obtain ⟨b2, o2, y, rfl, _, hy, hf2⟩ := kids_at (h2.below (hbr.mono hB2)) hlt
        have hlt' : (k : Int) < n1 := by omega
        have hk0 : (0 : Int) ≤ k := by omega
        have hcall := fun W hb => he k x y W hx hy (bel_next hbr hb)
        have Hxy := Lib.hid (And.intro hx hy)
        obtain ⟨xk, xn, xs, xcA, xcn, xcc, xkA, xkn, xkc, xkeys, xkids⟩ := x
        obtain ⟨yk, yn, ys, ycA, ycn, ycc, ykA, ykn, ykc, ykeys, ykids⟩ := y
        obtain ⟨f0, f1, f2, f3, f4⟩ := hf1
        obtain ⟨g0, g1, g2, g3, g4⟩ := hf2
        have k0 := cell_keep g0 (.cells #[.int .i64 xk, .int .i64 xn, .string xs, .slice xcA xcn xcc, .slice xkA xkn xkc] 25)
        have k1 := cell_keep g1 (.cells #[.int .i64 xk, .int .i64 xn, .string xs, .slice xcA xcn xcc, .slice xkA xkn xkc] 25)
        have k2 := cell_keep g2 (.cells #[.int .i64 xk, .int .i64 xn, .string xs, .slice xcA xcn xcc, .slice xkA xkn xkc] 25)
        have k3 := cell_keep g3 (.cells #[.int .i64 xk, .int .i64 xn, .string xs, .slice xcA xcn xcc, .slice xkA xkn xkc] 25)
        have k4 := cell_keep g4 (.cells #[.int .i64 xk, .int .i64 xn, .string xs, .slice xcA xcn xcc, .slice xkA xkn xkc] 25)
        have hbb := bel_alloc (bel_alloc (Below.refl wr.heap.size wr) (.cells #[.int .i64 xk, .int .i64 xn, .string xs, .slice xcA xcn xcc, .slice xkA xkn xkc] 25)) (.cells #[.int .i64 yk, .int .i64 yn, .string ys, .slice ycA ycn ycc, .slice ykA ykn ykc] 25)
        have hc := hcall _ hbb
        simp only [VT.agg] at hc
        clear hcall
        cases hs : sameV (.mk xk xn xs xcA xcn xcc xkA xkn xkc xkeys xkids) (.mk yk yn ys ycA ycn ycc ykA ykn ykc ykeys ykids)
        · rw [hs] at hc
          have HR := Lib.hid (show sameVL l1 l2 = false from bool_no (sameVL_iff l1 l2) fun e => by
            have := congrArg (·[k]?) e
            simp only [List.getElem?_map, Hxy.out.1, Hxy.out.2, Option.map_some] at this
            have h2 := (sameV_iff _ _).2 (Option.some.inj this)
            rw [hs] at h2; cases h2)
          clear hs hx hy
          go_wp2_with fail
          refine hc.mono ?_
          rintro e w1 ⟨rfl, hb1⟩
          go_wp2
          go_ret
          exact ⟨vret_b HR.out.symm, bel_next (bel_next hbr hbb) hb1⟩
        · rw [hs] at hc
          have HT := Lib.hid (show ∀ q x y, q < k + 1 → l1[q]? = some x → l2[q]? = some y → x.e = y.e from fun q x y h a b => if e : q = k then by
              subst e
              rw [Hxy.out.1] at a
              rw [Hxy.out.2] at b
              injection a with a
              injection b with b
              subst a b
              exact (sameV_iff _ _).1 hs
            else ht.out q x y (by omega) a b)
          clear hs hx hy ht
          go_wp2_with fail
          refine hc.mono ?_
          rintro e w1 ⟨rfl, hb1⟩
          go_wp2
          go_roundw
          case rel => exact ⟨k + 1, by omega, by go_num, HT, bel_next (bel_next hbr hbb) hb1⟩
          case measure => simp [intOf]; omega
      · have hk' : k = n1 := by omega
        have HR := Lib.hid (show sameVL l1 l2 = true from (sameVL_iff l1 l2).2 (by
          apply List.ext_getElem (by simp [H1.out, H2.out])
          intro i hi1 hi2
          rw [List.length_map] at hi1 hi2
          rw [List.getElem_map, List.getElem_map]
          exact ht.out i _ _ (by rw [H1.out] at hi1; omega) (List.getElem?_eq_getElem hi1) (List.getElem?_eq_getElem hi2)))
        subst hk'
        clear ht
        go_wp2
        go_ret
        exact ⟨vret_b HR.out.symm, hbr⟩
  · have hb : ((n1 : Int) != (n2 : Int)) = true := by rw [bne_iff_ne]; omega
    have HR := Lib.hid (show sameVL l1 l2 = false from bool_no (sameVL_iff l1 l2) fun e => hn (by
      have := congrArg List.length e
      rw [List.length_map, List.length_map, H1.out, H2.out] at this
      exact this))
    go_enter Tryd.func54, Tryd.ntmps54
    go_wp2
    go_ret
    exact ⟨vret_b HR.out.symm, Below.refl _ _⟩
end Go.Proofs.YtnldiemggabdkaaDoor
