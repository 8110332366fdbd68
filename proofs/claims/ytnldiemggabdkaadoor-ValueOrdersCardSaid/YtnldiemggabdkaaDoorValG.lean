/-
  Layer 4: equal; valid, Check, Same, Depth, Nodes.
-/
import Derived.Test.YtnldiemggabdkaaDoorValE
namespace Go.Proofs.YtnldiemggabdkaaDoor
open Go.RowKit
set_option linter.unusedVariables false

theorem eke {k n k' n' : Int} {s s' : ByteArray} {keys keys' : List ByteArray} {kids kids' : List VT} {cA kA cA' kA' : Option Addr} {cn cc kn kc cn' cc' kn' kc' : Nat} :
    sameV (.mk k n s cA cn cc kA kn kc keys kids) (.mk k' n' s' cA' cn' cc' kA' kn' kc' keys' kids') = (k == k' && (n == n' && (s.toList == s'.toList && (decide (keys = keys') && sameVL kids kids')))) := by
  rw [Bool.eq_iff_iff, sameV_iff, e_mk, e_mk]
  simp only [ET.mk.injEq, Bool.and_eq_true, beq_iff_eq, decide_eq_true_eq, sameVL_iff]
  constructor
  · rintro ⟨a, b, c, d, e⟩
    exact ⟨a, b, by rw [c], d, e⟩
  · rintro ⟨a, b, c, d, e⟩
    refine ⟨a, b, ?_, d, e⟩
    rw [ByteArray.toList_eq, ByteArray.toList_eq] at c
    exact ByteArray.ext (Array.toList_inj.1 c)

set_option maxRecDepth 20000 in
set_option maxHeartbeats 2000000 in
theorem equal_any : ∀ (T T' : VT) (B : Nat) (w : World), Lie w B T → Lie w B T' → B ≤ w.heap.size →
    Calls Tryd.prog 39 #[T.agg, T'.agg] w fun e w' => e = .returned (.bool (sameV T T')) ∧ Below w.heap.size w w' := by
  intro T
  induction T using VT.ind with
  | h k n s cA cn cc kA kn kc keys kids ih =>
  intro T' B w hL hL' hB
  obtain ⟨k', n', s', cA', cn', cc', kA', kn', kc', keys', kids'⟩ := T'
  cases hL with | mk hc hk hz hkid =>
  cases hL' with | mk hc' hk' hz' hkid' =>
  have hb := bel_alloc (bel_alloc (Below.refl w.heap.size w) (.cells #[.int .i64 k, .int .i64 n, .string s, .slice cA cn cc, .slice kA kn kc] 25)) (.cells #[.int .i64 k', .int .i64 n', .string s', .slice cA' cn' cc', .slice kA' kn' kc'] 25)
  have HR := Lib.hid (@eke k n k' n' s s' keys keys' kids kids' cA kA cA' kA' cn cc kn kc cn' cc' kn' kc')
  have HS := Lib.hid (fun W (h : Below w.heap.size w W) => equalS_any kA kA' kn kc kn' kc' keys keys' B B W (hk.below (h.mono hB)) (hk'.below (h.mono hB)) (Nat.le_trans hz.k1 hz.k2))
  have HF := Lib.hid (fun W (h : Below w.heap.size w W) => equalF_any cA cA' cn cc cn' cc' kids kids' B B W (hc.below (h.mono hB)) (hc'.below (h.mono hB)) (Nat.le_trans hz.c1 hz.c2) (Nat.le_trans hz'.c1 hz'.c2) (Nat.le_trans hB h.size) (Nat.le_trans hB h.size)
    fun i x y W' hx hy hb' => ih x (List.mem_of_getElem? hx) y B W' ((hkid x (List.mem_of_getElem? hx)).later ((bel_next h hb').mono hB)) ((hkid' y (List.mem_of_getElem? hy)).later ((bel_next h hb').mono hB)) (Nat.le_trans hB (bel_next h hb').size))
  simp only [VT.agg]
  clear ih hc hk hz hkid hc' hk' hz' hkid'
  have HW := Lib.hid (fun m => below_drewN hb m)
  generalize decide (keys = keys') = b1 at *
  generalize sameVL kids kids' = b2 at *
  generalize hb0 : sameV _ _ = R at *
  clear hb0
  by_cases h1 : k = k'
  · subst h1
    by_cases h2 : n = n'
    · subst h2
      by_cases h3 : s = s'
      · subst h3
        have he := str_eq s
        have hR := Lib.hid (show R = (b1 && b2) by rw [HR.out]; simp)
        clear HR
        cases b1
        · go_enter Tryd.func39, Tryd.ntmps39
          go_wp2_with fail
          refine (HS.out _ hb).mono ?_
          rintro e w1 ⟨rfl, m, rfl⟩
          go_wp2
          go_ret
          exact ⟨vret_b (by rw [hR.out]; rfl), below_drewN hb _⟩
        · go_enter Tryd.func39, Tryd.ntmps39
          go_wp2_with fail
          refine (HS.out _ hb).mono ?_
          rintro e w1 ⟨rfl, m, rfl⟩
          go_wp2_with fail
          refine (HF.out _ (HW.out _)).mono ?_
          rintro e w1 ⟨rfl, hb1⟩
          go_wp2
          go_ret
          exact ⟨vret_b (by rw [hR.out]; rfl), bel_next (HW.out _) hb1⟩
      · have he := str_ne h3
        have hR := Lib.hid (show R = false by rw [HR.out, he]; simp)
        clear HR HS HF h3
        go_enter Tryd.func39, Tryd.ntmps39
        go_wp2
        go_ret
        exact ⟨vret_b hR.out.symm, hb⟩
    · have he : (n == n') = false := by rw [beq_eq_false_iff_ne]; exact h2
      have hR := Lib.hid (show R = false by rw [HR.out, he]; simp)
      clear HR HS HF h2
      go_enter Tryd.func39, Tryd.ntmps39
      go_wp2
      go_ret
      exact ⟨vret_b hR.out.symm, hb⟩
  · have he : (k == k') = false := by rw [beq_eq_false_iff_ne]; exact h1
    have hR := Lib.hid (show R = false by rw [HR.out, he]; simp)
    clear HR HS HF h1
    go_enter Tryd.func39, Tryd.ntmps39
    go_wp2
    go_ret
    exact ⟨vret_b hR.out.symm, hb⟩

section
set_option maxRecDepth 20000
variable (k n : Int) (s : ByteArray) (cA : Option Addr) (cn cc : Nat) (kA : Option Addr) (kn kc : Nat) (keys : List ByteArray) (kids : List VT) (B : Nat) (w : World)
theorem valid_any (T : VT) (hL : Lie w B T) (hB : B ≤ w.heap.size) (htab : UTab w) (hst : STab w) :
    Calls Tryd.prog 38 #[T.agg] w fun e w' => e = .returned (.bool T.ok) ∧ Below w.heap.size w w' := by
  obtain ⟨k, n, s, cA, cn, cc, kA, kn, kc, keys, kids⟩ := T
  have hb := bel_alloc (Below.refl w.heap.size w) (.cells #[.int .i64 k, .int .i64 n, .string s, .slice cA cn cc, .slice kA kn kc] 25)
  have hm := measure_any k n s cA cn cc kA kn kc keys kids B _ (hL.later (hb.mono hB)) (Nat.le_trans hB hb.size) (htab.below hb htab.lt) (hst.below hb hst.lt)
  simp only [VT.agg]
  unfold measR at hm
  clear hL
  cases h : VT.ok (.mk k n s cA cn cc kA kn kc keys kids)
  · rw [h, if_neg (by decide)] at hm
    clear h
    go_enter Tryd.func38, Tryd.ntmps38
    go_wp2_with fail
    refine hm.mono ?_
    rintro e w1 ⟨rfl, hb1⟩
    go_wp2
    go_ret
    exact ⟨rfl, bel_next hb hb1⟩
  · rw [h, if_pos rfl] at hm
    clear h
    generalize VT.cnt _ = x at *
    generalize VT.dep _ = y at *
    go_enter Tryd.func38, Tryd.ntmps38
    go_wp2_with fail
    refine hm.mono ?_
    rintro e w1 ⟨rfl, hb1⟩
    go_wp2
    go_ret
    exact ⟨rfl, bel_next hb hb1⟩
def VT.depR (T : VT) : Nat := if T.ok = true then T.dep else 0
def VT.cntR (T : VT) : Nat := if T.ok = true then T.cnt else 0
theorem depth_any (T : VT) (hL : Lie w B T) (hB : B ≤ w.heap.size) (htab : UTab w) (hst : STab w) :
    Calls Tryd.prog 15 #[T.agg] w fun e w' => e = .returned (.int .i64 (T.depR : Nat)) ∧ Below w.heap.size w w' := by
  obtain ⟨k, n, s, cA, cn, cc, kA, kn, kc, keys, kids⟩ := T
  have hb := bel_alloc (Below.refl w.heap.size w) (.cells #[.int .i64 k, .int .i64 n, .string s, .slice cA cn cc, .slice kA kn kc] 25)
  have hm := measure_any k n s cA cn cc kA kn kc keys kids B _ (hL.later (hb.mono hB)) (Nat.le_trans hB hb.size) (htab.below hb htab.lt) (hst.below hb hst.lt)
  simp only [VT.agg]
  unfold measR at hm
  unfold VT.depR
  clear hL
  cases h : VT.ok (.mk k n s cA cn cc kA kn kc keys kids)
  · rw [h, if_neg (by decide)] at hm
    clear h
    go_enter Tryd.func15, Tryd.ntmps15
    go_wp2_with fail
    refine hm.mono ?_
    rintro e w1 ⟨rfl, hb1⟩
    go_wp2
    go_ret
    exact ⟨rfl, bel_next hb hb1⟩
  · rw [h, if_pos rfl] at hm
    clear h
    rw [if_pos rfl]
    generalize VT.cnt _ = x at *
    generalize VT.dep _ = y at *
    go_enter Tryd.func15, Tryd.ntmps15
    go_wp2_with fail
    refine hm.mono ?_
    rintro e w1 ⟨rfl, hb1⟩
    go_wp2
    go_ret
    exact ⟨rfl, bel_next hb hb1⟩
theorem vcount_any (T : VT) (hL : Lie w B T) (hB : B ≤ w.heap.size) (htab : UTab w) (hst : STab w) :
    Calls Tryd.prog 16 #[T.agg] w fun e w' => e = .returned (.int .i64 (T.cntR : Nat)) ∧ Below w.heap.size w w' := by
  obtain ⟨k, n, s, cA, cn, cc, kA, kn, kc, keys, kids⟩ := T
  have hb := bel_alloc (Below.refl w.heap.size w) (.cells #[.int .i64 k, .int .i64 n, .string s, .slice cA cn cc, .slice kA kn kc] 25)
  have hm := measure_any k n s cA cn cc kA kn kc keys kids B _ (hL.later (hb.mono hB)) (Nat.le_trans hB hb.size) (htab.below hb htab.lt) (hst.below hb hst.lt)
  simp only [VT.agg]
  unfold measR at hm
  unfold VT.cntR
  clear hL
  cases h : VT.ok (.mk k n s cA cn cc kA kn kc keys kids)
  · rw [h, if_neg (by decide)] at hm
    clear h
    go_enter Tryd.func16, Tryd.ntmps16
    go_wp2_with fail
    refine hm.mono ?_
    rintro e w1 ⟨rfl, hb1⟩
    go_wp2
    go_ret
    exact ⟨rfl, bel_next hb hb1⟩
  · rw [h, if_pos rfl] at hm
    clear h
    rw [if_pos rfl]
    generalize VT.cnt _ = x at *
    generalize VT.dep _ = y at *
    go_enter Tryd.func16, Tryd.ntmps16
    go_wp2_with fail
    refine hm.mono ?_
    rintro e w1 ⟨rfl, hb1⟩
    go_wp2
    go_ret
    exact ⟨rfl, bel_next hb hb1⟩
theorem vcheck_any (T : VT) (hL : Lie w B T) (hB : B ≤ w.heap.size) (htab : UTab w) (hst : STab w) :
    Calls Tryd.prog 12 #[T.agg] w fun e w' => e = .returned (.int .i64 (if T.ok = true then 0 else 140)) ∧ Below w.heap.size w w' := by
  obtain ⟨k, n, s, cA, cn, cc, kA, kn, kc, keys, kids⟩ := T
  have hb := bel_alloc (Below.refl w.heap.size w) (.cells #[.int .i64 k, .int .i64 n, .string s, .slice cA cn cc, .slice kA kn kc] 25)
  have hm := valid_any B _ (.mk k n s cA cn cc kA kn kc keys kids) (hL.later (hb.mono hB)) (Nat.le_trans hB hb.size) (htab.below hb htab.lt) (hst.below hb hst.lt)
  simp only [VT.agg] at hm ⊢
  clear hL
  cases h : VT.ok (.mk k n s cA cn cc kA kn kc keys kids)
  all_goals
    rw [h] at hm
    clear h
    go_enter Tryd.func12, Tryd.ntmps12
    go_wp2_with fail
    refine hm.mono ?_
    rintro e w1 ⟨rfl, hb1⟩
    go_wp2
    go_ret
    exact ⟨rfl, bel_next hb hb1⟩
noncomputable def sameR (T T' : VT) : Bool := T.ok && (T'.ok && sameV T T')
theorem same_any (T T' : VT) (hL : Lie w B T) (hL' : Lie w B T') (hB : B ≤ w.heap.size) (htab : UTab w) (hst : STab w) :
    Calls Tryd.prog 13 #[T.agg, T'.agg] w fun e w' => e = .returned (.bool (sameR T T')) ∧ Below w.heap.size w w' := by
  obtain ⟨k, n, s, cA, cn, cc, kA, kn, kc, keys, kids⟩ := T
  obtain ⟨k', n', s', cA', cn', cc', kA', kn', kc', keys', kids'⟩ := T'
  have hb := bel_alloc (bel_alloc (Below.refl w.heap.size w) (.cells #[.int .i64 k, .int .i64 n, .string s, .slice cA cn cc, .slice kA kn kc] 25)) (.cells #[.int .i64 k', .int .i64 n', .string s', .slice cA' cn' cc', .slice kA' kn' kc'] 25)
  have H1 := Lib.hid (fun W (h : Below w.heap.size w W) => valid_any B W (.mk k n s cA cn cc kA kn kc keys kids) (hL.later (h.mono hB)) (Nat.le_trans hB h.size) (htab.below h htab.lt) (hst.below h hst.lt))
  have H2 := Lib.hid (fun W (h : Below w.heap.size w W) => valid_any B W (.mk k' n' s' cA' cn' cc' kA' kn' kc' keys' kids') (hL'.later (h.mono hB)) (Nat.le_trans hB h.size) (htab.below h htab.lt) (hst.below h hst.lt))
  have H3 := Lib.hid (fun W (h : Below w.heap.size w W) => equal_any (.mk k n s cA cn cc kA kn kc keys kids) (.mk k' n' s' cA' cn' cc' kA' kn' kc' keys' kids') B W (hL.later (h.mono hB)) (hL'.later (h.mono hB)) (Nat.le_trans hB h.size))
  simp only [VT.agg] at H1 H2 H3 ⊢
  unfold sameR
  clear hL hL'
  generalize VT.ok (.mk k n s cA cn cc kA kn kc keys kids) = b1 at *
  generalize VT.ok (.mk k' n' s' cA' cn' cc' kA' kn' kc' keys' kids') = b2 at *
  generalize sameV _ _ = b3 at *
  have hv : ∀ W, Below ((w.alloc (.cells #[.int .i64 k, .int .i64 n, .string s, .slice cA cn cc, .slice kA kn kc] 25)).alloc (.cells #[.int .i64 k', .int .i64 n', .string s', .slice cA' cn' cc', .slice kA' kn' kc'] 25)).heap.size ((w.alloc (.cells #[.int .i64 k, .int .i64 n, .string s, .slice cA cn cc, .slice kA kn kc] 25)).alloc (.cells #[.int .i64 k', .int .i64 n', .string s', .slice cA' cn' cc', .slice kA' kn' kc'] 25)) W →
      (∀ j u, (#[Value.int .i64 k, .int .i64 n, .string s, .slice cA cn cc, .slice kA kn kc] : Array Value)[j]? = some u → W.cell? ⟨w.heap.size, j, none⟩ = some u) ∧ (∀ j u, (#[Value.int .i64 k', .int .i64 n', .string s', .slice cA' cn' cc', .slice kA' kn' kc'] : Array Value)[j]? = some u → W.cell? ⟨w.heap.size + 1, j, none⟩ = some u) := fun W h => by
    constructor
    · intro j u hu
      exact kept_later h (cell_keep (Box.new w _ _ j u (by simpa using hu)).1 _)
    · intro j u hu
      have := (Box.new (w.alloc (.cells #[.int .i64 k, .int .i64 n, .string s, .slice cA cn cc, .slice kA kn kc] 25)) #[.int .i64 k', .int .i64 n', .string s', .slice cA' cn' cc', .slice kA' kn' kc'] 25 j u (by simpa using hu)).1
      rw [World.size_alloc] at this
      exact kept_later h this
  cases b1
  · go_enter Tryd.func13, Tryd.ntmps13
    go_wp2_with fail
    refine (H1.out _ hb).mono ?_
    rintro e w1 ⟨rfl, hb1⟩
    go_wp2
    go_ret
    exact ⟨rfl, bel_next hb hb1⟩
  · cases b2
    · go_enter Tryd.func13, Tryd.ntmps13
      go_wp2_with fail
      refine (H1.out _ hb).mono ?_
      rintro e w1 ⟨rfl, hb1⟩
      obtain ⟨g, g'⟩ := hv w1 hb1
      have a0 := g' 0 _ rfl
      have a1 := g' 1 _ rfl
      have a2 := g' 2 _ rfl
      have a3 := g' 3 _ rfl
      have a4 := g' 4 _ rfl
      go_wp2_with fail
      refine (H2.out _ (bel_next hb hb1)).mono ?_
      rintro e w2 ⟨rfl, hb2⟩
      go_wp2
      go_ret
      exact ⟨rfl, bel_next (bel_next hb hb1) hb2⟩
    · go_enter Tryd.func13, Tryd.ntmps13
      go_wp2_with fail
      refine (H1.out _ hb).mono ?_
      rintro e w1 ⟨rfl, hb1⟩
      obtain ⟨g, g'⟩ := hv w1 hb1
      have a0 := g' 0 _ rfl
      have a1 := g' 1 _ rfl
      have a2 := g' 2 _ rfl
      have a3 := g' 3 _ rfl
      have a4 := g' 4 _ rfl
      go_wp2_with fail
      refine (H2.out _ (bel_next hb hb1)).mono ?_
      rintro e w2 ⟨rfl, hb2⟩
      obtain ⟨g2, g2'⟩ := hv w2 (bel_next hb1 hb2)
      have c0 := g2 0 _ rfl
      have c1 := g2 1 _ rfl
      have c2 := g2 2 _ rfl
      have c3 := g2 3 _ rfl
      have c4 := g2 4 _ rfl
      have d0 := g2' 0 _ rfl
      have d1 := g2' 1 _ rfl
      have d2 := g2' 2 _ rfl
      have d3 := g2' 3 _ rfl
      have d4 := g2' 4 _ rfl
      go_wp2_with fail
      refine (H3.out _ (bel_next (bel_next hb hb1) hb2)).mono ?_
      rintro e w3 ⟨rfl, hb3⟩
      go_wp2
      go_ret
      exact ⟨rfl, bel_next (bel_next (bel_next hb hb1) hb2) hb3⟩
end
end Go.Proofs.YtnldiemggabdkaaDoor
