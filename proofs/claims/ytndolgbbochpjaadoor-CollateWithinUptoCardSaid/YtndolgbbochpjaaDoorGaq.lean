import Derived.Test.YtndolgbbochpjaaDoorGap
import Derived.Test.YtndolgbbochpjaaDoorGad
import Derived.Test.YtndolgbbochpjaaDoorGae
import Derived.Test.YtndolgbbochpjaaDoorGao
/-
  CollateOrders: the order is total, antisymmetric, transitive, and equal just at the same values: the walk.
-/
namespace Go.Proofs.YtndolgbbochpjaaDoor
open Go.RowKit
set_option linter.unusedVariables false

def CmpP (T U : VT) (v E : Int) : Prop := ((T.ok && U.ok) = true ∧ v = cmpV T U ∧ E = 0) ∨ ((T.ok && U.ok) = false ∧ v = 0 ∧ E = 140)
theorem compareP_any (T U : VT) (B : Nat) (w : World) (hL : Lie w B T) (hL' : Lie w B U) (hB : B ≤ w.heap.size) (htab : UTab w) (hst : STab w) (hr : RTab w) :
    Calls Tryd.prog 11 #[T.agg, U.agg] w fun e w' => ∃ v E, e = .returned (.tuple #[.int .i64 v, .int .i64 E]) ∧ Hid (CmpP T U v E) ∧ Below w.heap.size w w' := by
  refine (compareT_any T U B w hL hL' hB htab hst hr).mono ?_
  rintro e w' ⟨rfl, hb⟩
  unfold cmpT
  cases h : (T.ok && U.ok) with
  | true => exact ⟨_, _, rfl, Lib.hid (.inl ⟨h, rfl, rfl⟩), hb⟩
  | false => exact ⟨_, _, rfl, Lib.hid (.inr ⟨h, rfl, rfl⟩), hb⟩
theorem same_zero {B B' : Nat} {w w' : World} {T U : VT} (hT : Lie w B T) (hU : Lie w' B' U) (h1 : T.ok = true) (h2 : U.ok = true) : sameR T U = decide (cmpV T U = 0) := by
  unfold sameR
  rw [h1, h2]
  have h := cmpV_zero hT hU h1 h2
  by_cases hz : cmpV T U = 0
  · rw [(sameV_iff _ _).2 (h.1 hz)]; simp [hz]
  · have : sameV T U = false := bool_no (sameV_iff _ _) (fun e => hz (h.2 e))
    rw [this]; simp [hz]
/-- What the law asks of three values that may be. -/
theorem three_cmp (T U V : VT) : cmpV U T = - cmpV T U ∧ (cmpV T U ≤ 0 → cmpV U V ≤ 0 → cmpV T V ≤ 0 ∧ (cmpV T V = 0 ↔ cmpV T U = 0 ∧ cmpV U V = 0)) :=
  ⟨cmpV_is.turn T U, fun h1 h2 => ⟨(cmpV_is.tr T U V h1 h2).1, (cmpV_is.tr T U V h1 h2).2, fun ⟨a, b⟩ => cmpV_is.eqv a b⟩⟩
set_option maxRecDepth 20000 in
set_option maxHeartbeats 4000000 in
theorem corders_any (w : World) (T U V : VT) (B : Nat) (hL1 : Lie w B T) (hL2 : Lie w B U) (hL3 : Lie w B V) (hB : B ≤ w.heap.size) (htab : UTab w) (hst : STab w) (hr : RTab w) :
    Calls Tryd.prog 6 #[T.agg, U.agg, V.agg] w fun e w' => e = .returned (.bool true) ∧ Below w.heap.size w w' := by
  have HTx := Lib.hid (fun W (h : Below w.heap.size w W) => (⟨htab.below h htab.lt, hst.below h hst.lt, hr.below h hr.lt⟩ : UTab W ∧ STab W ∧ RTab W))
  have H12 := Lib.hid (fun W (h : Below w.heap.size w W) => compareP_any T U B W (hL1.later (h.mono hB)) (hL2.later (h.mono hB)) (Nat.le_trans hB h.size) (HTx.out W h).1 (HTx.out W h).2.1 (HTx.out W h).2.2)
  have H21 := Lib.hid (fun W (h : Below w.heap.size w W) => compareP_any U T B W (hL2.later (h.mono hB)) (hL1.later (h.mono hB)) (Nat.le_trans hB h.size) (HTx.out W h).1 (HTx.out W h).2.1 (HTx.out W h).2.2)
  have H23 := Lib.hid (fun W (h : Below w.heap.size w W) => compareP_any U V B W (hL2.later (h.mono hB)) (hL3.later (h.mono hB)) (Nat.le_trans hB h.size) (HTx.out W h).1 (HTx.out W h).2.1 (HTx.out W h).2.2)
  have H13 := Lib.hid (fun W (h : Below w.heap.size w W) => compareP_any T V B W (hL1.later (h.mono hB)) (hL3.later (h.mono hB)) (Nat.le_trans hB h.size) (HTx.out W h).1 (HTx.out W h).2.1 (HTx.out W h).2.2)
  have HS := Lib.hid (fun W (h : Below w.heap.size w W) => same_any B W T U (hL1.later (h.mono hB)) (hL2.later (h.mono hB)) (Nat.le_trans hB h.size) (HTx.out W h).1 (HTx.out W h).2.1)
  have HSz := Lib.hid (fun (h1 : T.ok = true) (h2 : U.ok = true) => same_zero hL1 hL2 h1 h2)
  have H3 := Lib.hid (three_cmp T U V)
  have HO1 := Lib.hid (cmpV_is.ones T U)
  have HO2 := Lib.hid (cmpV_is.ones U V)
  have HO3 := Lib.hid (cmpV_is.ones T V)
  have HW := Lib.hid (fun W (h : Below w.heap.size w W) => cwakes_any W (HTx.out W h).1 (HTx.out W h).2.1 (HTx.out W h).2.2)
  unfold CmpP at H12 H21 H23 H13
  clear hL1 hL2 hL3 htab hst hr HTx
  generalize sameR T U = sb at *
  generalize cmpV T U = vab at *
  generalize cmpV U T = vba at *
  generalize cmpV U V = vbc at *
  generalize cmpV T V = vac at *
  generalize T.ok = ok1 at *
  generalize U.ok = ok2 at *
  generalize V.ok = ok3 at *
  obtain ⟨k, n, s, cA, cn, cc, kA, kn, kc, keys, kids⟩ := T
  obtain ⟨k', n', s', cA', cn', cc', kA', kn', kc', keys', kids'⟩ := U
  obtain ⟨k2, n2, s2, cA2, cn2, cc2, kA2, kn2, kc2, keys2, kids2⟩ := V
  simp only [VT.agg] at H12 H21 H23 H13 HS ⊢
  have hb1 := bel_alloc (bel_alloc (bel_alloc (Below.refl w.heap.size w) (.cells #[.int .i64 k, .int .i64 n, .string s, .slice cA cn cc, .slice kA kn kc] 25)) (.cells #[.int .i64 k', .int .i64 n', .string s', .slice cA' cn' cc', .slice kA' kn' kc'] 25)) (.cells #[.int .i64 k2, .int .i64 n2, .string s2, .slice cA2 cn2 cc2, .slice kA2 kn2 kc2] 25)
  have HA := Lib.hid (((VFive.new w (.int .i64 k) (.int .i64 n) (.string s) (.slice cA cn cc) (.slice kA kn kc) 25 w.heap.size rfl).alloc (.cells #[.int .i64 k', .int .i64 n', .string s', .slice cA' cn' cc', .slice kA' kn' kc'] 25)).alloc (.cells #[.int .i64 k2, .int .i64 n2, .string s2, .slice cA2 cn2 cc2, .slice kA2 kn2 kc2] 25))
  have HB := Lib.hid ((VFive.new (w.alloc (.cells #[.int .i64 k, .int .i64 n, .string s, .slice cA cn cc, .slice kA kn kc] 25)) (.int .i64 k') (.int .i64 n') (.string s') (.slice cA' cn' cc') (.slice kA' kn' kc') 25 (w.heap.size + 1) (World.size_alloc _ _)).alloc (.cells #[.int .i64 k2, .int .i64 n2, .string s2, .slice cA2 cn2 cc2, .slice kA2 kn2 kc2] 25))
  have HC := Lib.hid (VFive.new ((w.alloc (.cells #[.int .i64 k, .int .i64 n, .string s, .slice cA cn cc, .slice kA kn kc] 25)).alloc (.cells #[.int .i64 k', .int .i64 n', .string s', .slice cA' cn' cc', .slice kA' kn' kc'] 25)) (.int .i64 k2) (.int .i64 n2) (.string s2) (.slice cA2 cn2 cc2) (.slice kA2 kn2 kc2) 25 (w.heap.size + 2) (by simp))
  go_enter Tryd.func6, Tryd.ntmps6
  go_upto_region 1 with fail
  generalize (((w.alloc (.cells #[.int .i64 k, .int .i64 n, .string s, .slice cA cn cc, .slice kA kn kc] 25)).alloc (.cells #[.int .i64 k', .int .i64 n', .string s', .slice cA' cn' cc', .slice kA' kn' kc'] 25)).alloc (.cells #[.int .i64 k2, .int .i64 n2, .string s2, .slice cA2 cn2 cc2, .slice kA2 kn2 kc2] 25)) = w1 at *
  go_wp2_with fail
  refine (HW.out _ hb1).mono ?_
  rintro e w2 ⟨rfl, hn⟩
  have HA := Lib.hid (HA.out.later hn)
  have HB := Lib.hid (HB.out.later hn)
  have HC := Lib.hid (HC.out.later hn)
  have hb1 := bel_next hb1 hn
  clear hn
  clear HW
  obtain ⟨⟨a0, a1, a2, a3, a4⟩, -⟩ := HA.out
  obtain ⟨⟨b0, b1, b2, b3, b4⟩, -⟩ := HB.out
  obtain ⟨⟨c0, c1, c2, c3, c4⟩, -⟩ := HC.out
  go_wp2_with fail
  refine (H12.out _ hb1).mono ?_
  rintro e w3 ⟨ab, E1, rfl, HP1, hn⟩
  clear a0 a1 a2 a3 a4 b0 b1 b2 b3 b4 c0 c1 c2 c3 c4
  have HA := Lib.hid (HA.out.later hn)
  have HB := Lib.hid (HB.out.later hn)
  have HC := Lib.hid (HC.out.later hn)
  have hb1 := bel_next hb1 hn
  clear hn
  obtain ⟨⟨a0, a1, a2, a3, a4⟩, -⟩ := HA.out
  obtain ⟨⟨b0, b1, b2, b3, b4⟩, -⟩ := HB.out
  obtain ⟨⟨c0, c1, c2, c3, c4⟩, -⟩ := HC.out
  go_wp2_with fail
  refine (H21.out _ hb1).mono ?_
  rintro e w4 ⟨ba, E2, rfl, HP2, hn⟩
  clear a0 a1 a2 a3 a4 b0 b1 b2 b3 b4 c0 c1 c2 c3 c4
  have HA := Lib.hid (HA.out.later hn)
  have HB := Lib.hid (HB.out.later hn)
  have HC := Lib.hid (HC.out.later hn)
  have hb1 := bel_next hb1 hn
  clear hn
  obtain ⟨⟨a0, a1, a2, a3, a4⟩, -⟩ := HA.out
  obtain ⟨⟨b0, b1, b2, b3, b4⟩, -⟩ := HB.out
  obtain ⟨⟨c0, c1, c2, c3, c4⟩, -⟩ := HC.out
  go_wp2_with fail
  refine (H23.out _ hb1).mono ?_
  rintro e w5 ⟨bc, E3, rfl, HP3, hn⟩
  clear a0 a1 a2 a3 a4 b0 b1 b2 b3 b4 c0 c1 c2 c3 c4
  have HA := Lib.hid (HA.out.later hn)
  have HB := Lib.hid (HB.out.later hn)
  have HC := Lib.hid (HC.out.later hn)
  have hb1 := bel_next hb1 hn
  clear hn
  obtain ⟨⟨a0, a1, a2, a3, a4⟩, -⟩ := HA.out
  obtain ⟨⟨b0, b1, b2, b3, b4⟩, -⟩ := HB.out
  obtain ⟨⟨c0, c1, c2, c3, c4⟩, -⟩ := HC.out
  go_wp2_with fail
  refine (H13.out _ hb1).mono ?_
  rintro e w6 ⟨ac, E4, rfl, HP4, hn⟩
  clear a0 a1 a2 a3 a4 b0 b1 b2 b3 b4 c0 c1 c2 c3 c4
  have HA := Lib.hid (HA.out.later hn)
  have HB := Lib.hid (HB.out.later hn)
  have HC := Lib.hid (HC.out.later hn)
  have hb1 := bel_next hb1 hn
  clear hn
  obtain ⟨⟨a0, a1, a2, a3, a4⟩, -⟩ := HA.out
  obtain ⟨⟨b0, b1, b2, b3, b4⟩, -⟩ := HB.out
  obtain ⟨⟨c0, c1, c2, c3, c4⟩, -⟩ := HC.out
  clear H12 H21 H23 H13
  go_upto_region 7 with fail
  rcases HP1.out with ⟨h1, rfl, rfl⟩ | ⟨h1, rfl, rfl⟩
  · rcases HP3.out with ⟨h3, rfl, rfl⟩ | ⟨h3, rfl, rfl⟩
    · obtain ⟨rfl, rfl⟩ : ok1 = true ∧ ok2 = true := by simpa using h1
      obtain rfl : ok3 = true := by simpa using h3
      obtain ⟨rfl, rfl⟩ : ba = vba ∧ E2 = 0 := by
        rcases HP2.out with ⟨_, a, b⟩ | ⟨a, _⟩
        · exact ⟨a, b⟩
        · cases a
      obtain ⟨rfl, rfl⟩ : ac = vac ∧ E4 = 0 := by
        rcases HP4.out with ⟨_, a, b⟩ | ⟨a, _⟩
        · exact ⟨a, b⟩
        · cases a
      have hsz := HSz.out rfl rfl
      obtain ⟨q1, q2⟩ := H3.out
      subst hsz
      have o1 := HO1.out
      have o2 := HO2.out
      have o3 := HO3.out
      clear HP1 HP2 HP3 HP4 HSz H3 HO1 HO2 HO3 h1 h3
      have hall : (ab = -1 ∧ ba = 1 ∧ bc = -1 ∧ ac = -1) ∨ (ab = -1 ∧ ba = 1 ∧ bc = 0 ∧ ac = -1) ∨ (ab = -1 ∧ ba = 1 ∧ bc = 1) ∨ (ab = 0 ∧ ba = 0 ∧ bc = -1 ∧ ac = -1) ∨ (ab = 0 ∧ ba = 0 ∧ bc = 0 ∧ ac = 0) ∨ (ab = 0 ∧ ba = 0 ∧ bc = 1) ∨ (ab = 1 ∧ ba = -1) := by
        rcases o1 with h | h | h <;> rcases o2 with h2 | h2 | h2 <;> rcases o3 with h3 | h3 | h3 <;> subst h <;> subst h2 <;> subst h3 <;> simp at q1 q2 <;> simp [q1]
      have hs := HS.out _ hb1
      clear q1 q2 o1 o2 o3 HS
      rcases hall with ⟨rfl, rfl, rfl, rfl⟩ | ⟨rfl, rfl, rfl, rfl⟩ | ⟨rfl, rfl, rfl⟩ | ⟨rfl, rfl, rfl, rfl⟩ | ⟨rfl, rfl, rfl, rfl⟩ | ⟨rfl, rfl, rfl⟩ | ⟨rfl, rfl⟩
      all_goals
        go_wp2_with fail
        refine hs.mono ?_
        rintro e w7 ⟨rfl, hn⟩
        go_wp2
        go_ret
        exact ⟨rfl, bel_next hb1 hn⟩
    · obtain ⟨rfl, rfl⟩ : ok1 = true ∧ ok2 = true := by simpa using h1
      obtain rfl : E2 = 0 := by
        rcases HP2.out with ⟨_, a, b⟩ | ⟨a, _⟩
        · exact b
        · cases a
      clear HP1 HP2 HP3 HP4 HSz H3 HO1 HO2 HO3 h1 h3 HS
      go_wp2
      go_ret
      exact ⟨rfl, hb1⟩
  · have he2 : E2 = 140 := by
      rcases HP2.out with ⟨a, _⟩ | ⟨_, _, b⟩
      · rw [Bool.and_comm, a] at h1; cases h1
      · exact b
    subst he2
    have hE3 : E3 = 0 ∨ E3 = 140 := by
      rcases HP3.out with ⟨_, _, b⟩ | ⟨_, _, b⟩
      · exact .inl b
      · exact .inr b
    clear HP1 HP2 HP3 HP4 HSz H3 HO1 HO2 HO3 h1 HS
    go_wp2
    go_ret
    exact ⟨rfl, hb1⟩
theorem collateOrders_walk (W : World) (T : VT) (hT : Lie W W.heap.size T) (U : VT) (hU : Lie W W.heap.size U) (V : VT) (hV : Lie W W.heap.size V) (htab : UTab W ∧ STab W ∧ RTab W) :
    Calls Tryd.prog 6 #[T.agg, U.agg, V.agg] W fun e w' => e = .returned (.bool true) ∧ Below W.heap.size W w' :=
  corders_any W T U V W.heap.size hT hU hV (Nat.le_refl _) htab.1 htab.2.1 htab.2.2
end Go.Proofs.YtndolgbbochpjaaDoor
/-
  Layer 7: values that came in within the second form's bound; the law's own same, three ways.
-/
namespace Go.Proofs.YtndolgbbochpjaaDoor
open Go.ChangeShapes Go.WideShapes Go.ChangeAt Go.RowKit Go.Deep
set_option linter.unusedVariables false

section
variable {H : Type} {enc : TypeId × Value → H} {P : Program} {w W : World} {base b0 : Nat} {spare : Nat → Bool} {held : Bool} {r : Reach} {t e : TypeId} {v : Value} {d : DataW H} {p : List MemPlace} {N : Nat} {f0 f1 f2 f3 f4 : Field} {ek : TypeId}
theorem came_valuesN {A : Option Addr} {n c : Nat} (hu : P.underlying e = some (.slice t)) (ht : P.underlying t = some (.struct #[f0, f1, f2, f3, f4])) (hone : oneCellFields P #[f0, f1, f2, f3, f4] = true) (hC : P.cellsOf t = 5)
    (k0 : P.underlying f0.type = some (.int .i64)) (k1 : P.underlying f1.type = some (.int .i64)) (k2 : P.underlying f2.type = some .string) (k3 : P.underlying f3.type = some (.slice t)) (k4 : P.underlying f4.type = some (.slice ek)) (k5 : P.underlying ek = some .string) (hk : P.cellsOf ek = 1)
    (h : DataW.Trod enc P w base spare held e (.slice A n c) d p) (hN : Rows.uptoBulk d ≤ N) : ∃ l : List VT, Shows w w.heap.size 5 A n (l.flatMap VT.cells) ∧ (∀ T ∈ l, Lie w w.heap.size T ∧ Sml N T) ∧ (A = none → c = 0) ∧ n ≤ c ∧ c ≤ maxLen := by
  obtain ⟨fuel, hf⟩ := h
  obtain ⟨A', n', c', l, hcs, h2, h3, h4⟩ := open_rowsN VT.cells (scV 0 0 ⟨#[]⟩) 5 (by decide) VT.cells_len (fun T => Lie w w.heap.size T ∧ Sml N T) hu hC (fun n' cs' y _ hl' hy' hb' => trod_valueN ht hone hC k0 k1 k2 k3 k4 k5 hk n' cs' y hl' hy' hb') hf hN
  simp [Value.cells] at hcs
  obtain ⟨rfl, rfl, rfl⟩ := hcs
  exact ⟨l, h2, h3, h4⟩
end
theorem same_yes (A A' : Option Addr) (n c c' B : Nat) (L M : List VT) (w : World) (h : Shows w B 5 A n (L.flatMap VT.cells)) (h' : Shows w B 5 A' n (M.flatMap VT.cells)) (hL : ∀ x ∈ L, Lie w B x ∧ Sml 1048576 x) (hM : ∀ x ∈ M, Lie w B x ∧ Sml 1048576 x) (hB : B ≤ w.heap.size) (hn : n ≤ 1000)
    (hs : ∀ (i : Nat) x y, L[i]? = some x → M[i]? = some y → sameR x y = true) :
    Calls Tryd.prog 18 #[.slice A n c, .slice A' n c'] w fun e w' => e = .returned (.bool true) ∧ Below w.heap.size w w' := by
  refine (sameL_any A A' n c c' B L M w h h' hL hM hB hn).mono ?_
  rintro e w' ⟨b, rfl, hb, hf⟩
  rw [hb.2 hs]
  exact ⟨rfl, hf⟩
theorem same_sorted {w : World} {B : Nat} {L M : List VT} (hL : ∀ x ∈ L, Lie w B x ∧ x.ok = true) (hM : ∀ x ∈ M, Lie w B x ∧ x.ok = true) (h1 : Rise L) (h2 : Rise M) (hp : L.Perm M) (i : Nat) (x y : VT) (hx : L[i]? = some x) (hy : M[i]? = some y) : sameR x y = true := by
  obtain ⟨hi, rfl⟩ := List.getElem?_eq_some_iff.1 hx
  obtain ⟨hi', rfl⟩ := List.getElem?_eq_some_iff.1 hy
  have m1 := hL _ (List.getElem_mem hi)
  have m2 := hM _ (List.getElem_mem hi')
  rw [same_zero m1.1 m2.1 m1.2 m2.2]
  have h := rise_two h2 h1 hp.symm i hi' hi
  exact decide_eq_true h
theorem same_rise (A A' : Option Addr) (n c c' B : Nat) (L M : List VT) (w : World) (h : Shows w B 5 A n (L.flatMap VT.cells)) (h' : Shows w B 5 A' n (M.flatMap VT.cells)) (hL : ∀ x ∈ L, Lie w B x ∧ Sml 1048576 x) (hLo : ∀ x ∈ L, x.ok = true) (hp : M.Perm L) (hr : Rise M) (hB : B ≤ w.heap.size) (hn : n ≤ 1000) :
    Calls Tryd.prog 18 #[.slice A n c, .slice A' n c'] w fun e w' => ∃ b, e = .returned (.bool b) ∧ (b = true ↔ Rise L) ∧ Below w.heap.size w w' := by
  have hM : ∀ x ∈ M, Lie w B x ∧ Sml 1048576 x := fun x hx => hL x (hp.mem_iff.1 hx)
  have hMo : ∀ x ∈ M, x.ok = true := fun x hx => hLo x (hp.mem_iff.1 hx)
  refine (sameL_any A A' n c c' B L M w h h' hL hM hB hn).mono ?_
  rintro e w' ⟨b, rfl, hb, hf⟩
  refine ⟨b, rfl, ?_, hf⟩
  rw [hb]
  constructor
  · intro hs
    refine rise_like hr hp.length_eq.symm fun i h1 h2 => ?_
    have := hs i L[i] M[i] (List.getElem?_eq_getElem h1) (List.getElem?_eq_getElem h2)
    have m1 := List.getElem_mem h1
    have m2 := List.getElem_mem h2
    rw [same_zero (hL _ m1).1 (hM _ m2).1 (hLo _ m1) (hMo _ m2)] at this
    exact of_decide_eq_true this
  · intro hs
    exact same_sorted (fun x hx => ⟨(hL x hx).1, hLo x hx⟩) (fun x hx => ⟨(hM x hx).1, hMo x hx⟩) hs hr hp.symm
end Go.Proofs.YtndolgbbochpjaaDoor
/-
  Layer 7: CollateWithin: what lies in a row and in an object.
-/
namespace Go.Proofs.YtndolgbbochpjaaDoor
open Go.RowKit
set_option linter.unusedVariables false

theorem lie_objW {w : World} {B : Nat} {A K : Addr} {p q : ByteArray} {a z : VT} (h : Shows w B 5 (some A) 2 (a.cells ++ z.cells)) (hk : Shows w B 1 (some K) 2 [.string p, .string q]) (ha : Lie w B a) (hz : Lie w B z) (hp : p.size ≤ maxLen) (hq : q.size ≤ maxLen) :
    Lie w B (.mk 6 0 ⟨#[]⟩ (some A) 2 2 (some K) 2 2 [p, q] [a, z]) :=
  .mk (by simpa using h) hk ⟨by decide, by decide, by decide, Nat.le_refl _, by decide, (fun h => by cases h), Nat.le_refl _, by decide, (fun h => by cases h), fun x hx => by
    rcases List.mem_cons.1 hx with rfl | hx
    · exact hp
    · rw [List.mem_singleton] at hx; subst hx; exact hq⟩ fun x hx => by
    rcases List.mem_cons.1 hx with rfl | hx
    · exact ha
    · rw [List.mem_singleton] at hx; subst hx; exact hz
theorem lie_rowW {w : World} {B : Nat} {A : Option Addr} {n c : Nat} {l : List VT} {a z : VT} (h : Shows w B 5 A n ((l ++ [a, z]).flatMap VT.cells)) (hl : ∀ x ∈ l, Lie w B x) (ha : Lie w B a) (hz : Lie w B z) (hA : A = none → c = 0) (hnc : n ≤ c) (hc : c ≤ maxLen) : Lie w B (lsV A n c (l ++ [a, z])) :=
  lie_lsS h (fun x hx => by
    rcases List.mem_append.1 hx with hx | hx
    · exact hl x hx
    · rcases List.mem_cons.1 hx with rfl | hx
      · exact ha
      · rw [List.mem_singleton] at hx; subst hx; exact hz) hA hnc hc
end Go.Proofs.YtndolgbbochpjaaDoor
