import Derived.Test.YtndolgbbochpjaaDoorGaj
import Derived.Test.YtndolgbbochpjaaDoorGad
import Derived.Test.YtndolgbbochpjaaDoorGae
import Derived.Test.YtndolgbbochpjaaDoorGak
import Derived.Test.YtndolgbbochpjaaDoorGap
import Derived.Test.YtndolgbbochpjaaDoorGaa
import Derived.Lib.LaidTab
import Derived.Lib.LaidU8
import Derived.Test.YtndolgbbochpjaaDoorGab
import Derived.Test.YtndolgbbochpjaaDoorGaf
/-
  CollateOrders: the order is total, antisymmetric, transitive, and equal just at the same values: the walk.
-/
namespace Go.Proofs.YtndolgbbochpjaaDoor
open Go.RowKit
set_option linter.unusedVariables false

def CmpP (T U : VT) (v E : Int) : Prop := ((T.ok && U.ok) = true ∧ v = cmpV T U ∧ E = 0) ∨ ((T.ok && U.ok) = false ∧ v = 0 ∧ E = 140)
theorem compareP_any (T U : VT) (B : Nat) (w : World) (hL : Lie w B T) (hL' : Lie w B U) (hB : B ≤ w.heap.size) (htab : UTab w) (hst : STab w) (hr : RTab w) :
    Calls Tryd.prog 11 #[T.agg, U.agg] w fun e w' => ∃ v E, e = .returned (.tuple #[.int .i64 v, .int .i64 E]) ∧ Hid (CmpP T U v E) ∧ Below w.heap.size w w' := by
  refine (compareT_any T U B w hL hL' hB htab hst hr).mono ?_
  rintro e w' ⟨rfl, hb⟩
  unfold cmpT
  cases h : (T.ok && U.ok) with
  | true => exact ⟨_, _, rfl, Lib.hid (.inl ⟨h, rfl, rfl⟩), hb⟩
  | false => exact ⟨_, _, rfl, Lib.hid (.inr ⟨h, rfl, rfl⟩), hb⟩
theorem same_zero {B B' : Nat} {w w' : World} {T U : VT} (hT : Lie w B T) (hU : Lie w' B' U) (h1 : T.ok = true) (h2 : U.ok = true) : sameR T U = decide (cmpV T U = 0) := by
  unfold sameR
  rw [h1, h2]
  have h := cmpV_zero hT hU h1 h2
  by_cases hz : cmpV T U = 0
  · rw [(sameV_iff _ _).2 (h.1 hz)]; simp [hz]
  · have : sameV T U = false := bool_no (sameV_iff _ _) (fun e => hz (h.2 e))
    rw [this]; simp [hz]
/-- What the law asks of three values that may be. -/
theorem three_cmp (T U V : VT) : cmpV U T = - cmpV T U ∧ (cmpV T U ≤ 0 → cmpV U V ≤ 0 → cmpV T V ≤ 0 ∧ (cmpV T V = 0 ↔ cmpV T U = 0 ∧ cmpV U V = 0)) :=
  ⟨cmpV_is.turn T U, fun h1 h2 => ⟨(cmpV_is.tr T U V h1 h2).1, (cmpV_is.tr T U V h1 h2).2, fun ⟨a, b⟩ => cmpV_is.eqv a b⟩⟩
set_option maxRecDepth 20000 in
set_option maxHeartbeats 4000000 in
theorem corders_any (w : World) (T U V : VT) (B : Nat) (hL1 : Lie w B T) (hL2 : Lie w B U) (hL3 : Lie w B V) (hB : B ≤ w.heap.size) (htab : UTab w) (hst : STab w) (hr : RTab w) :
    Calls Tryd.prog 6 #[T.agg, U.agg, V.agg] w fun e w' => e = .returned (.bool true) ∧ Below w.heap.size w w' := by
  have HTx := Lib.hid (fun W (h : Below w.heap.size w W) => (⟨htab.below h htab.lt, hst.below h hst.lt, hr.below h hr.lt⟩ : UTab W ∧ STab W ∧ RTab W))
  have H12 := Lib.hid (fun W (h : Below w.heap.size w W) => compareP_any T U B W (hL1.later (h.mono hB)) (hL2.later (h.mono hB)) (Nat.le_trans hB h.size) (HTx.out W h).1 (HTx.out W h).2.1 (HTx.out W h).2.2)
  have H21 := Lib.hid (fun W (h : Below w.heap.size w W) => compareP_any U T B W (hL2.later (h.mono hB)) (hL1.later (h.mono hB)) (Nat.le_trans hB h.size) (HTx.out W h).1 (HTx.out W h).2.1 (HTx.out W h).2.2)
  have H23 := Lib.hid (fun W (h : Below w.heap.size w W) => compareP_any U V B W (hL2.later (h.mono hB)) (hL3.later (h.mono hB)) (Nat.le_trans hB h.size) (HTx.out W h).1 (HTx.out W h).2.1 (HTx.out W h).2.2)
  have H13 := Lib.hid (fun W (h : Below w.heap.size w W) => compareP_any T V B W (hL1.later (h.mono hB)) (hL3.later (h.mono hB)) (Nat.le_trans hB h.size) (HTx.out W h).1 (HTx.out W h).2.1 (HTx.out W h).2.2)
  have HS := Lib.hid (fun W (h : Below w.heap.size w W) => same_any B W T U (hL1.later (h.mono hB)) (hL2.later (h.mono hB)) (Nat.le_trans hB h.size) (HTx.out W h).1 (HTx.out W h).2.1)
  have HSz := Lib.hid (fun (h1 : T.ok = true) (h2 : U.ok = true) => same_zero hL1 hL2 h1 h2)
  have H3 := Lib.hid (three_cmp T U V)
  have HO1 := Lib.hid (cmpV_is.ones T U)
  have HO2 := Lib.hid (cmpV_is.ones U V)
  have HO3 := Lib.hid (cmpV_is.ones T V)
  have HW := Lib.hid (fun W (h : Below w.heap.size w W) => cwakes_any W (HTx.out W h).1 (HTx.out W h).2.1 (HTx.out W h).2.2)
  unfold CmpP at H12 H21 H23 H13
  clear hL1 hL2 hL3 htab hst hr HTx
  generalize sameR T U = sb at *
  generalize cmpV T U = vab at *
  generalize cmpV U T = vba at *
  generalize cmpV U V = vbc at *
  generalize cmpV T V = vac at *
  generalize T.ok = ok1 at *
  generalize U.ok = ok2 at *
  generalize V.ok = ok3 at *
  obtain ⟨k, n, s, cA, cn, cc, kA, kn, kc, keys, kids⟩ := T
  obtain ⟨k', n', s', cA', cn', cc', kA', kn', kc', keys', kids'⟩ := U
  obtain ⟨k2, n2, s2, cA2, cn2, cc2, kA2, kn2, kc2, keys2, kids2⟩ := V
  simp only [VT.agg] at H12 H21 H23 H13 HS ⊢
  have hb1 := bel_alloc (bel_alloc (bel_alloc (Below.refl w.heap.size w) (.cells #[.int .i64 k, .int .i64 n, .string s, .slice cA cn cc, .slice kA kn kc] 25)) (.cells #[.int .i64 k', .int .i64 n', .string s', .slice cA' cn' cc', .slice kA' kn' kc'] 25)) (.cells #[.int .i64 k2, .int .i64 n2, .string s2, .slice cA2 cn2 cc2, .slice kA2 kn2 kc2] 25)
  have HA := Lib.hid (((VFive.new w (.int .i64 k) (.int .i64 n) (.string s) (.slice cA cn cc) (.slice kA kn kc) 25 w.heap.size rfl).alloc (.cells #[.int .i64 k', .int .i64 n', .string s', .slice cA' cn' cc', .slice kA' kn' kc'] 25)).alloc (.cells #[.int .i64 k2, .int .i64 n2, .string s2, .slice cA2 cn2 cc2, .slice kA2 kn2 kc2] 25))
  have HB := Lib.hid ((VFive.new (w.alloc (.cells #[.int .i64 k, .int .i64 n, .string s, .slice cA cn cc, .slice kA kn kc] 25)) (.int .i64 k') (.int .i64 n') (.string s') (.slice cA' cn' cc') (.slice kA' kn' kc') 25 (w.heap.size + 1) (World.size_alloc _ _)).alloc (.cells #[.int .i64 k2, .int .i64 n2, .string s2, .slice cA2 cn2 cc2, .slice kA2 kn2 kc2] 25))
  have HC := Lib.hid (VFive.new ((w.alloc (.cells #[.int .i64 k, .int .i64 n, .string s, .slice cA cn cc, .slice kA kn kc] 25)).alloc (.cells #[.int .i64 k', .int .i64 n', .string s', .slice cA' cn' cc', .slice kA' kn' kc'] 25)) (.int .i64 k2) (.int .i64 n2) (.string s2) (.slice cA2 cn2 cc2) (.slice kA2 kn2 kc2) 25 (w.heap.size + 2) (by simp))
  go_enter Tryd.func6, Tryd.ntmps6
  go_upto_region 1 with fail
  generalize (((w.alloc (.cells #[.int .i64 k, .int .i64 n, .string s, .slice cA cn cc, .slice kA kn kc] 25)).alloc (.cells #[.int .i64 k', .int .i64 n', .string s', .slice cA' cn' cc', .slice kA' kn' kc'] 25)).alloc (.cells #[.int .i64 k2, .int .i64 n2, .string s2, .slice cA2 cn2 cc2, .slice kA2 kn2 kc2] 25)) = w1 at *
  go_wp2_with fail
  refine (HW.out _ hb1).mono ?_
  rintro e w2 ⟨rfl, hn⟩
  have HA := Lib.hid (HA.out.later hn)
  have HB := Lib.hid (HB.out.later hn)
  have HC := Lib.hid (HC.out.later hn)
  have hb1 := bel_next hb1 hn
  clear hn
  clear HW
  obtain ⟨⟨a0, a1, a2, a3, a4⟩, -⟩ := HA.out
  obtain ⟨⟨b0, b1, b2, b3, b4⟩, -⟩ := HB.out
  obtain ⟨⟨c0, c1, c2, c3, c4⟩, -⟩ := HC.out
  go_wp2_with fail
  refine (H12.out _ hb1).mono ?_
  rintro e w3 ⟨ab, E1, rfl, HP1, hn⟩
  clear a0 a1 a2 a3 a4 b0 b1 b2 b3 b4 c0 c1 c2 c3 c4
  have HA := Lib.hid (HA.out.later hn)
  have HB := Lib.hid (HB.out.later hn)
  have HC := Lib.hid (HC.out.later hn)
  have hb1 := bel_next hb1 hn
  clear hn
  obtain ⟨⟨a0, a1, a2, a3, a4⟩, -⟩ := HA.out
  obtain ⟨⟨b0, b1, b2, b3, b4⟩, -⟩ := HB.out
  obtain ⟨⟨c0, c1, c2, c3, c4⟩, -⟩ := HC.out
  go_wp2_with fail
  refine (H21.out _ hb1).mono ?_
  rintro e w4 ⟨ba, E2, rfl, HP2, hn⟩
  clear a0 a1 a2 a3 a4 b0 b1 b2 b3 b4 c0 c1 c2 c3 c4
  have HA := Lib.hid (HA.out.later hn)
  have HB := Lib.hid (HB.out.later hn)
  have HC := Lib.hid (HC.out.later hn)
  have hb1 := bel_next hb1 hn
  clear hn
  obtain ⟨⟨a0, a1, a2, a3, a4⟩, -⟩ := HA.out
  obtain ⟨⟨b0, b1, b2, b3, b4⟩, -⟩ := HB.out
  obtain ⟨⟨c0, c1, c2, c3, c4⟩, -⟩ := HC.out
  go_wp2_with fail
  refine (H23.out _ hb1).mono ?_
  rintro e w5 ⟨bc, E3, rfl, HP3, hn⟩
  clear a0 a1 a2 a3 a4 b0 b1 b2 b3 b4 c0 c1 c2 c3 c4
  have HA := Lib.hid (HA.out.later hn)
  have HB := Lib.hid (HB.out.later hn)
  have HC := Lib.hid (HC.out.later hn)
  have hb1 := bel_next hb1 hn
  clear hn
  obtain ⟨⟨a0, a1, a2, a3, a4⟩, -⟩ := HA.out
  obtain ⟨⟨b0, b1, b2, b3, b4⟩, -⟩ := HB.out
  obtain ⟨⟨c0, c1, c2, c3, c4⟩, -⟩ := HC.out
  go_wp2_with fail
  refine (H13.out _ hb1).mono ?_
  rintro e w6 ⟨ac, E4, rfl, HP4, hn⟩
  clear a0 a1 a2 a3 a4 b0 b1 b2 b3 b4 c0 c1 c2 c3 c4
  have HA := Lib.hid (HA.out.later hn)
  have HB := Lib.hid (HB.out.later hn)
  have HC := Lib.hid (HC.out.later hn)
  have hb1 := bel_next hb1 hn
  clear hn
  obtain ⟨⟨a0, a1, a2, a3, a4⟩, -⟩ := HA.out
  obtain ⟨⟨b0, b1, b2, b3, b4⟩, -⟩ := HB.out
  obtain ⟨⟨c0, c1, c2, c3, c4⟩, -⟩ := HC.out
  clear H12 H21 H23 H13
  go_upto_region 7 with fail
  rcases HP1.out with ⟨h1, rfl, rfl⟩ | ⟨h1, rfl, rfl⟩
  · rcases HP3.out with ⟨h3, rfl, rfl⟩ | ⟨h3, rfl, rfl⟩
    · obtain ⟨rfl, rfl⟩ : ok1 = true ∧ ok2 = true := by simpa using h1
      obtain rfl : ok3 = true := by simpa using h3
      obtain ⟨rfl, rfl⟩ : ba = vba ∧ E2 = 0 := by
        rcases HP2.out with ⟨_, a, b⟩ | ⟨a, _⟩
        · exact ⟨a, b⟩
        · cases a
      obtain ⟨rfl, rfl⟩ : ac = vac ∧ E4 = 0 := by
        rcases HP4.out with ⟨_, a, b⟩ | ⟨a, _⟩
        · exact ⟨a, b⟩
        · cases a
      have hsz := HSz.out rfl rfl
      obtain ⟨q1, q2⟩ := H3.out
      subst hsz
      have o1 := HO1.out
      have o2 := HO2.out
      have o3 := HO3.out
      clear HP1 HP2 HP3 HP4 HSz H3 HO1 HO2 HO3 h1 h3
      have hall : (ab = -1 ∧ ba = 1 ∧ bc = -1 ∧ ac = -1) ∨ (ab = -1 ∧ ba = 1 ∧ bc = 0 ∧ ac = -1) ∨ (ab = -1 ∧ ba = 1 ∧ bc = 1) ∨ (ab = 0 ∧ ba = 0 ∧ bc = -1 ∧ ac = -1) ∨ (ab = 0 ∧ ba = 0 ∧ bc = 0 ∧ ac = 0) ∨ (ab = 0 ∧ ba = 0 ∧ bc = 1) ∨ (ab = 1 ∧ ba = -1) := by
        rcases o1 with h | h | h <;> rcases o2 with h2 | h2 | h2 <;> rcases o3 with h3 | h3 | h3 <;> subst h <;> subst h2 <;> subst h3 <;> simp at q1 q2 <;> simp [q1]
      have hs := HS.out _ hb1
      clear q1 q2 o1 o2 o3 HS
      rcases hall with ⟨rfl, rfl, rfl, rfl⟩ | ⟨rfl, rfl, rfl, rfl⟩ | ⟨rfl, rfl, rfl⟩ | ⟨rfl, rfl, rfl, rfl⟩ | ⟨rfl, rfl, rfl, rfl⟩ | ⟨rfl, rfl, rfl⟩ | ⟨rfl, rfl⟩
      all_goals
        go_wp2_with fail
        refine hs.mono ?_
        rintro e w7 ⟨rfl, hn⟩
        go_wp2
        go_ret
        exact ⟨rfl, bel_next hb1 hn⟩
    · obtain ⟨rfl, rfl⟩ : ok1 = true ∧ ok2 = true := by simpa using h1
      obtain rfl : E2 = 0 := by
        rcases HP2.out with ⟨_, a, b⟩ | ⟨a, _⟩
        · exact b
        · cases a
      clear HP1 HP2 HP3 HP4 HSz H3 HO1 HO2 HO3 h1 h3 HS
      go_wp2
      go_ret
      exact ⟨rfl, hb1⟩
  · have he2 : E2 = 140 := by
      rcases HP2.out with ⟨a, _⟩ | ⟨_, _, b⟩
      · rw [Bool.and_comm, a] at h1; cases h1
      · exact b
    subst he2
    have hE3 : E3 = 0 ∨ E3 = 140 := by
      rcases HP3.out with ⟨_, _, b⟩ | ⟨_, _, b⟩
      · exact .inl b
      · exact .inr b
    clear HP1 HP2 HP3 HP4 HSz H3 HO1 HO2 HO3 h1 HS
    go_wp2
    go_ret
    exact ⟨rfl, hb1⟩
theorem collateOrders_walk (W : World) (T : VT) (hT : Lie W W.heap.size T) (U : VT) (hU : Lie W W.heap.size U) (V : VT) (hV : Lie W W.heap.size V) (htab : UTab W ∧ STab W ∧ RTab W) :
    Calls Tryd.prog 6 #[T.agg, U.agg, V.agg] W fun e w' => e = .returned (.bool true) ∧ Below W.heap.size W w' :=
  corders_any W T U V W.heap.size hT hU hV (Nat.le_refl _) htab.1 htab.2.1 htab.2.2
end Go.Proofs.YtndolgbbochpjaaDoor
/-
  Layer 7: values that came in within the second form's bound; the law's own same, three ways.
-/
namespace Go.Proofs.YtndolgbbochpjaaDoor
open Go.ChangeShapes Go.WideShapes Go.ChangeAt Go.RowKit Go.Deep
set_option linter.unusedVariables false

section
variable {H : Type} {enc : TypeId × Value → H} {P : Program} {w W : World} {base b0 : Nat} {spare : Nat → Bool} {held : Bool} {r : Reach} {t e : TypeId} {v : Value} {d : DataW H} {p : List MemPlace} {N : Nat} {f0 f1 f2 f3 f4 : Field} {ek : TypeId}
theorem came_valuesN {A : Option Addr} {n c : Nat} (hu : P.underlying e = some (.slice t)) (ht : P.underlying t = some (.struct #[f0, f1, f2, f3, f4])) (hone : oneCellFields P #[f0, f1, f2, f3, f4] = true) (hC : P.cellsOf t = 5)
    (k0 : P.underlying f0.type = some (.int .i64)) (k1 : P.underlying f1.type = some (.int .i64)) (k2 : P.underlying f2.type = some .string) (k3 : P.underlying f3.type = some (.slice t)) (k4 : P.underlying f4.type = some (.slice ek)) (k5 : P.underlying ek = some .string) (hk : P.cellsOf ek = 1)
    (h : DataW.Trod enc P w base spare held e (.slice A n c) d p) (hN : Rows.uptoBulk d ≤ N) : ∃ l : List VT, Shows w w.heap.size 5 A n (l.flatMap VT.cells) ∧ (∀ T ∈ l, Lie w w.heap.size T ∧ Sml N T) ∧ (A = none → c = 0) ∧ n ≤ c ∧ c ≤ maxLen := by
  obtain ⟨fuel, hf⟩ := h
  obtain ⟨A', n', c', l, hcs, h2, h3, h4⟩ := open_rowsN VT.cells (scV 0 0 ⟨#[]⟩) 5 (by decide) VT.cells_len (fun T => Lie w w.heap.size T ∧ Sml N T) hu hC (fun n' cs' y _ hl' hy' hb' => trod_valueN ht hone hC k0 k1 k2 k3 k4 k5 hk n' cs' y hl' hy' hb') hf hN
  simp [Value.cells] at hcs
  obtain ⟨rfl, rfl, rfl⟩ := hcs
  exact ⟨l, h2, h3, h4⟩
end
theorem same_yes (A A' : Option Addr) (n c c' B : Nat) (L M : List VT) (w : World) (h : Shows w B 5 A n (L.flatMap VT.cells)) (h' : Shows w B 5 A' n (M.flatMap VT.cells)) (hL : ∀ x ∈ L, Lie w B x ∧ Sml 1048576 x) (hM : ∀ x ∈ M, Lie w B x ∧ Sml 1048576 x) (hB : B ≤ w.heap.size) (hn : n ≤ 1000)
    (hs : ∀ (i : Nat) x y, L[i]? = some x → M[i]? = some y → sameR x y = true) :
    Calls Tryd.prog 18 #[.slice A n c, .slice A' n c'] w fun e w' => e = .returned (.bool true) ∧ Below w.heap.size w w' := by
  refine (sameL_any A A' n c c' B L M w h h' hL hM hB hn).mono ?_
  rintro e w' ⟨b, rfl, hb, hf⟩
  rw [hb.2 hs]
  exact ⟨rfl, hf⟩
theorem same_sorted {w : World} {B : Nat} {L M : List VT} (hL : ∀ x ∈ L, Lie w B x ∧ x.ok = true) (hM : ∀ x ∈ M, Lie w B x ∧ x.ok = true) (h1 : Rise L) (h2 : Rise M) (hp : L.Perm M) (i : Nat) (x y : VT) (hx : L[i]? = some x) (hy : M[i]? = some y) : sameR x y = true := by
  obtain ⟨hi, rfl⟩ := List.getElem?_eq_some_iff.1 hx
  obtain ⟨hi', rfl⟩ := List.getElem?_eq_some_iff.1 hy
  have m1 := hL _ (List.getElem_mem hi)
  have m2 := hM _ (List.getElem_mem hi')
  rw [same_zero m1.1 m2.1 m1.2 m2.2]
  have h := rise_two h2 h1 hp.symm i hi' hi
  exact decide_eq_true h
theorem same_rise (A A' : Option Addr) (n c c' B : Nat) (L M : List VT) (w : World) (h : Shows w B 5 A n (L.flatMap VT.cells)) (h' : Shows w B 5 A' n (M.flatMap VT.cells)) (hL : ∀ x ∈ L, Lie w B x ∧ Sml 1048576 x) (hLo : ∀ x ∈ L, x.ok = true) (hp : M.Perm L) (hr : Rise M) (hB : B ≤ w.heap.size) (hn : n ≤ 1000) :
    Calls Tryd.prog 18 #[.slice A n c, .slice A' n c'] w fun e w' => ∃ b, e = .returned (.bool b) ∧ (b = true ↔ Rise L) ∧ Below w.heap.size w w' := by
  have hM : ∀ x ∈ M, Lie w B x ∧ Sml 1048576 x := fun x hx => hL x (hp.mem_iff.1 hx)
  have hMo : ∀ x ∈ M, x.ok = true := fun x hx => hLo x (hp.mem_iff.1 hx)
  refine (sameL_any A A' n c c' B L M w h h' hL hM hB hn).mono ?_
  rintro e w' ⟨b, rfl, hb, hf⟩
  refine ⟨b, rfl, ?_, hf⟩
  rw [hb]
  constructor
  · intro hs
    refine rise_like hr hp.length_eq.symm fun i h1 h2 => ?_
    have := hs i L[i] M[i] (List.getElem?_eq_getElem h1) (List.getElem?_eq_getElem h2)
    have m1 := List.getElem_mem h1
    have m2 := List.getElem_mem h2
    rw [same_zero (hL _ m1).1 (hM _ m2).1 (hLo _ m1) (hMo _ m2)] at this
    exact of_decide_eq_true this
  · intro hs
    exact same_sorted (fun x hx => ⟨(hL x hx).1, hLo x hx⟩) (fun x hx => ⟨(hM x hx).1, hMo x hx⟩) hs hr hp.symm
end Go.Proofs.YtndolgbbochpjaaDoor
/-
  CollateSorts: Sort sorts any values, Place finds the position of a value in a sorted list, or they return the documented error: the walk.
-/
namespace Go.Proofs.YtndolgbbochpjaaDoor
open Go.RowKit
set_option linter.unusedVariables false

set_option maxRecDepth 20000 in
set_option maxHeartbeats 4000000 in
theorem csorts_any (w : World) (A0 : Option Addr) (n0 c0 : Nat) (l0 : List VT) (T : VT) (B : Nat) (hB : B ≤ w.heap.size)
    (h0 : Shows w B 5 A0 n0 (l0.flatMap VT.cells)) (hl0 : ∀ x ∈ l0, Lie w B x ∧ Sml 1048576 x) (hc0 : n0 ≤ c0) (hM0 : c0 ≤ maxLen) (hT : Lie w B T) (sT : Sml 1048576 T) (htab : UTab w) (hst : STab w) (hr : RTab w) :
    Calls Tryd.prog 4 #[.slice A0 n0 c0, T.agg] w fun e w' => e = .returned (.bool true) ∧ Below w.heap.size w w' := by
  have HTx := Lib.hid (fun W (h : Below w.heap.size w W) => (⟨htab.below h htab.lt, hst.below h hst.lt, hr.below h hr.lt⟩ : UTab W ∧ STab W ∧ RTab W))
  have HW := Lib.hid (fun W (h : Below w.heap.size w W) => cwakes_any W (HTx.out W h).1 (HTx.out W h).2.1 (HTx.out W h).2.2)
  have Hsm := Lib.hid (fun W (h : Below w.heap.size w W) => some_any A0 n0 c0 B l0 W (h0.below (h.mono hB)) (Nat.le_trans hB h.size) hc0 hM0)
  have hml : min n0 20 ≤ 20 := by omega
  have hlie : ∀ x ∈ l0.take (min n0 20), Lie w B x ∧ Sml 1048576 x := fun x hx => hl0 x (List.mem_of_mem_take hx)
  generalize min n0 20 = m at *
  generalize l0.take m = L at *
  have HLie := Lib.hid (fun W (h : Below w.heap.size w W) x (hx : x ∈ L) => (⟨((hlie x hx).1.later (h.mono hB)).more (Nat.le_trans hB h.size), (hlie x hx).2⟩ : Lie W W.heap.size x ∧ Sml 1048576 x))
  have HLieT := Lib.hid (fun W (h : Below w.heap.size w W) => (⟨(hT.later (h.mono hB)).more (Nat.le_trans hB h.size), sT⟩ : Lie W W.heap.size T ∧ Sml 1048576 T))
  have Hpl := Lib.hid (fun A c W (h : Below w.heap.size w W) (hs : Shows W W.heap.size 5 A m (L.flatMap VT.cells)) => placeT_any A m c W.heap.size L T W hs (fun x hx => (HLie.out W h x hx).1) (HLieT.out W h).1 (Nat.le_refl _) (by omega) (HTx.out W h).1 (HTx.out W h).2.1 (HTx.out W h).2.2)
  have Hrt := Lib.hid (fun A c W (h : Below w.heap.size w W) (hs : Shows W W.heap.size 5 A m (L.flatMap VT.cells)) => lright_any A m c W.heap.size L W hs (fun x hx => HLie.out W h x hx) (Nat.le_refl _) (by omega))
  have HrT := Lib.hid (fun W (h : Below w.heap.size w W) => right_any T W.heap.size W (HLieT.out W h).1 sT (Nat.le_refl _))
  have Hl1 := Lib.hid (fun (h1 : T.ok = true) (h2 : L.all VT.ok = true) y (hy : y ∈ L) W (h : Below w.heap.size w W) => rlessV_any y T W.heap.size W (HLie.out W h y hy).1 (HLieT.out W h).1 (List.all_eq_true.1 h2 y hy) h1 (HLie.out W h y hy).2 sT (Nat.le_refl _))
  have Hl2 := Lib.hid (fun (h1 : T.ok = true) (h2 : L.all VT.ok = true) y (hy : y ∈ L) W (h : Below w.heap.size w W) => rlessV_any T y W.heap.size W (HLieT.out W h).1 (HLie.out W h y hy).1 h1 (List.all_eq_true.1 h2 y hy) sT (HLie.out W h y hy).2 (Nat.le_refl _))
  have Hsn := Lib.hid (fun (j : Nat) y (hy : L[j]? = some y) => (show befN T (L.take (j + 1)) = befN T (L.take j) + (if decide (cmpV y T < 0) = true then 1 else 0) ∧ uptN T (L.take (j + 1)) = uptN T (L.take j) + (if decide (cmpV T y < 0) = true then 0 else 1) from by
    obtain ⟨h1, h2⟩ := bef_snoc (T := T) hy
    have ht := cmpV_is.turn y T
    constructor
    · rw [h1]; simp only [decide_eq_true_eq]
    · rw [h2]; simp only [decide_eq_true_eq]
      by_cases hz : cmpV T y < 0
      · rw [if_pos hz, if_neg (by omega)]
      · rw [if_neg hz, if_pos (by omega)]))
  have hfull : ∀ t, L.length ≤ t → befN T (L.take t) = befN T L ∧ uptN T (L.take t) = uptN T L := fun t ht => by rw [List.take_of_length_le ht]; exact ⟨rfl, rfl⟩
  have Hfull := Lib.hid hfull
  have hz0 : befN T (L.take 0) = 0 ∧ uptN T (L.take 0) = 0 := ⟨by simp [befN], by simp [uptN]⟩
  have Hz0 := Lib.hid hz0
  have hPl0 : ∀ X E, PlP L T X E → (L.all VT.ok = false → X = (0, 0) ∧ E = 140) ∧ (T.ok = false → X = (0, 0) ∧ E = 140) ∧ (L.all VT.ok = true → T.ok = true → (¬ Rise L → X = (0, 0) ∧ E = 2) ∧ (Rise L → X = ((befN T L : Int), (uptN T L : Int)) ∧ E = 0)) := by
    intro X E h
    refine ⟨fun h1 => ?_, fun h1 => ?_, fun h1 h2 => ?_⟩
    · rcases h with ⟨_, h⟩ | ⟨h, _⟩
      · exact h
      · rw [h1] at h; cases h
    · rcases h with ⟨_, h⟩ | ⟨h, _⟩
      · exact h
      · rw [h1, Bool.and_false] at h; cases h
    · rcases h with ⟨h, _⟩ | ⟨_, h | h⟩
      · rw [h1, h2] at h; cases h
      · exact ⟨fun _ => h.2, fun hr => absurd hr h.1⟩
      · exact ⟨fun hr => absurd h.1 hr, fun _ => h.2⟩
  have HPl0 := Lib.hid hPl0
  clear htab hst hr h0 hl0 hlie hc0 hM0 hT sT hPl0 hz0 hfull
  generalize befN T = bfN at *
  generalize uptN T = upN at *
  generalize hbf : (fun y => decide (cmpV y T < 0)) = f1 at *
  generalize hbg : (fun y => decide (cmpV T y < 0)) = f2 at *
  have e1 : ∀ y, decide (cmpV y T < 0) = f1 y := fun y => by rw [← hbf]
  have e2 : ∀ y, decide (cmpV T y < 0) = f2 y := fun y => by rw [← hbg]
  simp only [e1, e2] at Hl1 Hl2 Hsn
  clear e1 e2 hbf hbg
  generalize PlP L T = PL at *
  generalize T.ok = okT at *
  obtain ⟨k, n, s, cA, cn, cc, kA, kn, kc, keys, kids⟩ := T
  simp only [VT.agg] at Hpl HrT ⊢
  have Hl1' : Hid (okT = true → L.all VT.ok = true → ∀ y ∈ L, ∀ W, Below w.heap.size w W → Calls Tryd.prog 20 #[y.agg, .agg #[.int .i64 k, .int .i64 n, .string s, .slice cA cn cc, .slice kA kn kc]] W fun e w' => e = .returned (.bool (f1 y)) ∧ Fr W w') := Lib.hid Hl1.out
  have Hl2' : Hid (okT = true → L.all VT.ok = true → ∀ y ∈ L, ∀ W, Below w.heap.size w W → Calls Tryd.prog 20 #[.agg #[.int .i64 k, .int .i64 n, .string s, .slice cA cn cc, .slice kA kn kc], y.agg] W fun e w' => e = .returned (.bool (f2 y)) ∧ Fr W w') := Lib.hid Hl2.out
  clear Hl1 Hl2 HLieT
  have hb1 := bel_alloc (Below.refl w.heap.size w) (.cells #[.int .i64 k, .int .i64 n, .string s, .slice cA cn cc, .slice kA kn kc] 25)
  have HV := Lib.hid (VFive.new w (.int .i64 k) (.int .i64 n) (.string s) (.slice cA cn cc) (.slice kA kn kc) 25 w.heap.size rfl)
  go_enter Tryd.func4, Tryd.ntmps4
  go_upto_region 1 with fail
  generalize (w.alloc (.cells #[.int .i64 k, .int .i64 n, .string s, .slice cA cn cc, .slice kA kn kc] 25)) = w1 at *
  have hg := HV.out.lt
  go_wp2_with fail
  refine (HW.out _ hb1).mono ?_
  rintro e w2 ⟨rfl, hn⟩
  have hb2 := bel_next hb1 hn
  have HV2 := Lib.hid (HV.out.later hn)
  clear HW HV hn hb1 hg
  have hsm := Hsm.out _ hb2
  go_wp2_with fail
  refine hsm.mono ?_
  rintro e w3 ⟨A1, c1, rfl, HS1, HA1, hc1, hn⟩
  have hb3 := bel_next hb2 hn
  have HV3 := Lib.hid (HV2.out.later hn)
  have hso := sortT_any A1 m c1 w3.heap.size L w3 HS1.out (fun x hx => (HLie.out _ hb3 x hx).1) (Nat.le_refl _) hml HA1.out hc1 (HTx.out _ hb3).1 (HTx.out _ hb3).2.1 (HTx.out _ hb3).2.2
  clear hsm hn hb2 HV2
  go_wp2_with fail
  refine hso.mono ?_
  rintro e w4 ⟨⟨hok, rfl⟩ | ⟨hok, A2, c2, L2, rfl, HS2, HP⟩, hn⟩
  · clear hso
    have hb4 := bel_next hb3 hn
    have HV4 := Lib.hid (HV3.out.later hn)
    have HS4 := Lib.hid ((HS1.out.below hn).more hn.size)
    have hpl := Hpl.out A1 c1 _ hb4 HS4.out
    obtain ⟨⟨g0, g1, g2, g3, g4⟩, -⟩ := HV4.out
    go_wp2_with fail
    refine hpl.mono ?_
    rintro e w5 ⟨X, E, rfl, HX, hn5⟩
    obtain ⟨rfl, rfl⟩ := (HPl0.out X E HX.out).1 hok
    have hb5 := bel_next hb4 hn5
    have hrt := Hrt.out A1 c1 _ hb5 ((HS4.out.below hn5).more hn5.size)
    rw [hok] at hrt
    clear hpl
    go_wp2_with fail
    refine hrt.mono ?_
    rintro e w6 ⟨rfl, hn6⟩
    clear hrt g0 g1 g2 g3 g4
    go_wp2
    go_ret
    exact ⟨by first | rfl | simp, bel_next hb5 hn6⟩
  · clear hso
    have hb4 := bel_next hb3 hn
    have HV4 := Lib.hid (HV3.out.later hn)
    have HS4 := Lib.hid ((HS1.out.below hn).more hn.size)
    have hpl := Hpl.out A1 c1 _ hb4 HS4.out
    obtain ⟨⟨g0, g1, g2, g3, g4⟩, -⟩ := HV4.out
    go_wp2_with fail
    refine hpl.mono ?_
    rintro e w5 ⟨⟨X1, X2⟩, E, rfl, HX, hn5⟩
    have HX1 := Lib.hid (HPl0.out (X1, X2) E HX.out)
    have hb5 := bel_next hb4 hn5
    have HS5 := Lib.hid ((HS4.out.below hn5).more hn5.size)
    have HM5 := Lib.hid ((HS2.out.below hn5).more hn5.size)
    have HV5 := Lib.hid (HV4.out.later hn5)
    have hrt := Hrt.out A1 c1 _ hb5 HS5.out
    rw [hok] at hrt
    clear hpl g0 g1 g2 g3 g4 HS1 HS2 HS4 HV3 HV4 HX
    go_wp2_with fail
    refine hrt.mono ?_
    rintro e w6 ⟨rfl, hn6⟩
    clear hrt
    have hb6 := bel_next hb5 hn6
    have HS6 := Lib.hid ((HS5.out.below hn6).more hn6.size)
    have HM6 := Lib.hid ((HM5.out.below hn6).more hn6.size)
    have HV6 := Lib.hid (HV5.out.later hn6)
    have hso := rsort_any A1 m c1 w6.heap.size L w6 HS6.out (fun x hx => ⟨⟨(HLie.out _ hb6 x hx).1, List.all_eq_true.1 hok x hx⟩, (HLie.out _ hb6 x hx).2⟩) (Nat.le_refl _) hml
    clear HS5 HM5 HV5
    go_wp2_with fail
    refine hso.mono ?_
    rintro e w7 ⟨A3, c3, S, rfl, HS3, HP3, hn7⟩
    clear hso
    have hb7 := bel_next hb6 hn7
    have HS7 := Lib.hid ((HS6.out.below hn7).more hn7.size)
    have HM7 := Lib.hid ((HM6.out.below hn7).more hn7.size)
    have HV7 := Lib.hid (HV6.out.later hn7)
    have HL7 := Lib.hid (fun W (h : Below w7.heap.size w7 W) x (hx : x ∈ L) => (⟨HLie.out W (bel_next hb7 h) x hx, List.all_eq_true.1 hok x hx⟩ : (Lie W W.heap.size x ∧ Sml 1048576 x) ∧ x.ok = true))
    have HM7l := Lib.hid (fun W (h : Below w7.heap.size w7 W) x (hx : x ∈ L2) => HL7.out W h x (HP.out.1.mem_iff.1 hx))
    have HS7l := Lib.hid (fun W (h : Below w7.heap.size w7 W) x (hx : x ∈ S) => HL7.out W h x (HP3.out.1.mem_iff.1 hx))
    have hr0 := Below.refl w7.heap.size w7
    have hs1 := same_yes A2 A3 m c2 c3 w7.heap.size L2 S w7 HM7.out HS3.out (fun x hx => (HM7l.out _ hr0 x hx).1) (fun x hx => (HS7l.out _ hr0 x hx).1) (Nat.le_refl _) (by omega)
      (same_sorted (fun x hx => ⟨(HM7l.out _ hr0 x hx).1.1, (HM7l.out _ hr0 x hx).2⟩) (fun x hx => ⟨(HS7l.out _ hr0 x hx).1.1, (HS7l.out _ hr0 x hx).2⟩) HP.out.2 HP3.out.2 (HP.out.1.trans HP3.out.1.symm))
    clear HM7 HM6 HS6 HV6 hr0
    go_wp2_with fail
    refine hs1.mono ?_
    rintro e w8 ⟨rfl, hn8⟩
    clear hs1
    have hb8 := bel_next hb7 hn8
    have hsm := Hsm.out _ hb8
    go_wp2_with fail
    refine hsm.mono ?_
    rintro e w9 ⟨A4, c4, rfl, HS9, _, _, hn9⟩
    clear hsm
    have hn79 := bel_next hn8 hn9
    have hb9 := bel_next hb7 hn79
    have HS79 := Lib.hid ((HS7.out.below hn79).more hn79.size)
    have HS39 := Lib.hid ((HS3.out.below hn79).more hn79.size)
    have hs2 := same_yes A1 A4 m c1 c4 w9.heap.size L L w9 HS79.out HS9.out (fun x hx => (HL7.out _ hn79 x hx).1) (fun x hx => (HL7.out _ hn79 x hx).1) (Nat.le_refl _) (by omega)
      (fun i x y hx hy => by rw [hx] at hy; injection hy with hy; rw [← hy]; exact sameR_self x (HL7.out _ hn79 x (List.mem_of_getElem? hx)).2)
    go_wp2_with fail
    refine hs2.mono ?_
    rintro e w10 ⟨rfl, hn10⟩
    clear hs2
    have hn710 := bel_next hn79 hn10
    have hb10 := bel_next hb7 hn710
    have HS710 := Lib.hid ((HS79.out.below hn10).more hn10.size)
    have HS310 := Lib.hid ((HS39.out.below hn10).more hn10.size)
    have HV10 := Lib.hid (HV7.out.later hn710)
    have hrT := HrT.out _ hb10
    obtain ⟨⟨g0, g1, g2, g3, g4⟩, -⟩ := HV10.out
    clear HS79 HS39 HS7 HS3 HV7
    go_wp2_with fail
    refine hrT.mono ?_
    rintro e w11 ⟨rfl, hn11⟩
    clear hrT g0 g1 g2 g3 g4
    have hn711 := bel_next hn710 hn11
    have hb11 := bel_next hb7 hn711
    have HS711 := Lib.hid ((HS710.out.below hn11).more hn11.size)
    have HS311 := Lib.hid ((HS310.out.below hn11).more hn11.size)
    have HV11 := Lib.hid (HV10.out.later hn11)
    cases okT
    · obtain ⟨hX, rfl⟩ := HX1.out.2.1 rfl
      injection hX with hx1 hx2
      subst hx1; subst hx2
      go_wp2
      go_ret
      exact ⟨by first | rfl | simp, hb11⟩
    · have hs3 := same_rise A1 A3 m c1 c3 w11.heap.size L S w11 HS711.out HS311.out (fun x hx => (HL7.out _ hn711 x hx).1) (fun x hx => (HL7.out _ hn711 x hx).2) HP3.out.1 HP3.out.2 (Nat.le_refl _) (by omega)
      have HX2 := Lib.hid (HX1.out.2.2 hok rfl)
      have Hle1 := Lib.hid (Hl1'.out rfl hok)
      have Hle2 := Lib.hid (Hl2'.out rfl hok)
      clear HX1 Hl1' Hl2'
      go_wp2_with fail
      refine hs3.mono ?_
      rintro e w12 ⟨bb, rfl, hbb, hn12⟩
      clear hs3
      have hb12 := bel_next hb11 hn12
      have HS12 := Lib.hid ((HS711.out.below hn12).more hn12.size)
      have HV12 := Lib.hid (HV11.out.later hn12)
      have Hbb := Lib.hid hbb
      clear hbb
      cases bb
      · obtain ⟨hX, rfl⟩ := HX2.out.1 (fun h => absurd (Hbb.out.2 h) (by decide))
        injection hX with hx1 hx2
        subst hx1; subst hx2
        go_wp2
        go_ret
        exact ⟨by first | rfl | simp, hb12⟩
      · obtain ⟨hX, rfl⟩ := HX2.out.2 (Hbb.out.1 rfl)
        injection hX with hx1 hx2
        subst hx1; subst hx2
        have hm20 : (m : Int) ≤ 20 := by omega
        clear Hbb HX2
        go_wp2
        go_loopw [12, 13, 102] (fun x y i wr => ∃ (t p q : Nat), t ≤ m ∧ i = .int .i64 t ∧ x = .int .i64 p ∧ y = .int .i64 q ∧ p ≤ t ∧ q ≤ t ∧ Hid (bfN (L.take t) = p ∧ upN (L.take t) = q) ∧ Below w12.heap.size w12 wr) (fun _ _ i _ => m - (intOf i).toNat)
        case atStart => exact ⟨0, 0, 0, Nat.zero_le _, rfl, rfl, rfl, Nat.le_refl _, Nat.le_refl _, Hz0, Below.refl _ _⟩
        case round =>
          obtain ⟨t, p, q, ht, rfl, rfl, rfl, hpt, hqt, HU, hbt⟩ := hrel
          have hb13 := bel_next hb12 hbt
          by_cases hlt : t < m
          · obtain ⟨b3, off3, y, hA3, _, hy, h5⟩ := kids_at (HS12.out.below hbt) hlt
            subst hA3
            have hlt' : (t : Int) < (m : Int) := by omega
            have hsn := Hsn.out t y hy
            have hm1 := List.mem_of_getElem? hy
            have Hc1 := Lib.hid (Hle1.out y hm1)
            have Hc2 := Lib.hid (Hle2.out y hm1)
            have HUn := Lib.hid (⟨by rw [hsn.1, HU.out.1], by rw [hsn.2, HU.out.2]⟩ : bfN (L.take (t + 1)) = p + (if f1 y = true then 1 else 0) ∧ upN (L.take (t + 1)) = q + (if f2 y = true then 0 else 1))
            clear hy hsn hm1 HU
            generalize f1 y = b1 at *
            generalize f2 y = b2 at *
            obtain ⟨yk, yn, ys, ycA, ycn, ycc, ykA, ykn, ykc, ykeys, ykids⟩ := y
            simp only [VT.agg] at Hc1 Hc2
            obtain ⟨g0, g1, g2, g3, g4⟩ := h5
            have hb14 := bel_alloc hbt (.cells #[.int .i64 yk, .int .i64 yn, .string ys, .slice ycA ycn ycc, .slice ykA ykn ykc] 25)
            have HY := Lib.hid (VFive.new wr (.int .i64 yk) (.int .i64 yn) (.string ys) (.slice ycA ycn ycc) (.slice ykA ykn ykc) 25 wr.heap.size rfl)
            have HV14 := Lib.hid (HV12.out.later hb14)
            obtain ⟨⟨y0, y1, y2, y3, y4⟩, -⟩ := HY.out
            obtain ⟨⟨v0, v1, v2, v3, v4⟩, -⟩ := HV14.out
            have hss := Hc1.out _ (bel_next hb12 hb14)
            go_wp2_with fail
            refine hss.mono ?_
            rintro e w15 ⟨rfl, hn15⟩
            clear hss y0 y1 y2 y3 y4 v0 v1 v2 v3 v4
            have hb15 := bel_next hb14 hn15.1
            have HY15 := HY.out.later hn15.1
            have HV15 := HV14.out.later hn15.1
            obtain ⟨⟨y0, y1, y2, y3, y4⟩, -⟩ := HY15
            obtain ⟨⟨v0, v1, v2, v3, v4⟩, -⟩ := HV15
            have hss2 := Hc2.out _ (bel_next hb12 hb15)
            clear Hc1 Hc2 g0 g1 g2 g3 g4
            cases b1
            · go_wp2_with fail
              refine hss2.mono ?_
              rintro e w16 ⟨rfl, hn16⟩
              clear hss2 y0 y1 y2 y3 y4 v0 v1 v2 v3 v4
              cases b2
              · go_wp2
                go_roundw
                case rel => exact ⟨t + 1, p, q + 1, by omega, by go_num, by first | rfl | go_num, by first | rfl | go_num, by omega, by omega, Lib.hid (by simpa using HUn.out), bel_next hb15 hn16.1⟩
                case measure => simp [intOf]; omega
              · go_wp2
                go_roundw
                case rel => exact ⟨t + 1, p, q, by omega, by go_num, by first | rfl | go_num, by first | rfl | go_num, by omega, by omega, Lib.hid (by simpa using HUn.out), bel_next hb15 hn16.1⟩
                case measure => simp [intOf]; omega
            · go_wp2_with fail
              refine hss2.mono ?_
              rintro e w16 ⟨rfl, hn16⟩
              clear hss2 y0 y1 y2 y3 y4 v0 v1 v2 v3 v4
              cases b2
              · go_wp2
                go_roundw
                case rel => exact ⟨t + 1, p + 1, q + 1, by omega, by go_num, by first | rfl | go_num, by first | rfl | go_num, by omega, by omega, Lib.hid (by simpa using HUn.out), bel_next hb15 hn16.1⟩
                case measure => simp [intOf]; omega
              · go_wp2
                go_roundw
                case rel => exact ⟨t + 1, p + 1, q, by omega, by go_num, by first | rfl | go_num, by first | rfl | go_num, by omega, by omega, Lib.hid (by simpa using HUn.out), bel_next hb15 hn16.1⟩
                case measure => simp [intOf]; omega
          · obtain rfl : t = m := by omega
            have hlenL : L.length = t := kids_len HS12.out
            have h := Hfull.out t (by omega)
            obtain ⟨e1, e2⟩ := HU.out
            rw [h.1] at e1
            rw [h.2] at e2
            subst e1
            subst e2
            clear HU h hlenL
            go_wp2
            go_ret
            exact ⟨by first | rfl | simp, hb13⟩
theorem collateSorts_walk (W : World) (a0 : Option Addr) (len0 cap0 : Nat) (l0 : List VT) (b0 : Shows W W.heap.size 5 a0 len0 (l0.flatMap VT.cells)) (ok0 : ∀ T ∈ l0, Lie W W.heap.size T ∧ Sml 1048576 T) (z0 : a0 = none → cap0 = 0) (y0 : len0 ≤ cap0) (x0 : cap0 ≤ maxLen) (T1 : VT) (hT1 : Lie W W.heap.size T1) (sT1 : Sml 1048576 T1) (htab : UTab W ∧ STab W ∧ RTab W) :
    Calls Tryd.prog 4 #[.slice a0 len0 cap0, T1.agg] W fun e W' => e = .returned (.bool true) ∧ Below W.heap.size W W' :=
  csorts_any W a0 len0 cap0 l0 T1 W.heap.size (Nat.le_refl _) b0 ok0 y0 x0 hT1 sT1 htab.1 htab.2.1 htab.2.2
end Go.Proofs.YtndolgbbochpjaaDoor
/-
  Layer 1: the table of forms out of a row's condition: an array of structs of whole numbers holds what it reads as.
-/
namespace Go.Proofs.YtndolgbbochpjaaDoor
open Go.RowKit

section
variable {H : Type} {enc : TypeId × Value → H} {P : Program} {w : World} {base : Nat} {sp : Nat → Bool} {held : Bool} {k : IntKind}
def litRow (k : IntKind) (zs : List Int) : DataW H := .agg (zs.map fun z => .lit (.int k z))
theorem cells_of_struct {fuel : Nat} {t : TypeId} {fs : Array Field} {cs : List Value} {zs : List Int} {p : List MemPlace} (ht : P.underlying t = some (.struct fs)) (hn : P.cellsOf t = fs.size)
    (hf : ∀ (i : Nat) (f : Field), fs[i]? = some f → f.offset = i ∧ P.cellsOf f.type = 1 ∧ P.underlying f.type = some (.int k))
    (h : DataW.trod enc P w base sp held fuel t cs = some (litRow k zs, p)) : cs = zs.map fun z => Value.int k z := by
  obtain ⟨xs, n, _, hx, hl, hlen, hfx⟩ := DataW.trod_struct ht h
  have hxs : xs.map (·.1) = zs.map fun z => (DataW.lit (.int k z) : DataW H) := by
    have := congrArg Prod.fst hx
    simpa [litRow] using this.symm
  have hzl : zs.length = fs.size := by
    have := congrArg List.length hxs
    simp at this
    omega
  apply List.ext_getElem?
  intro i
  by_cases hi : i < fs.size
  · obtain ⟨h1, h2, h3⟩ := hf i fs[i] (Array.getElem?_eq_getElem hi)
    have hb := hfx i fs[i] (Array.getElem?_eq_getElem hi)
    rw [h1, h2, List.getElem?_eq_getElem (by omega)] at hb
    obtain ⟨z, hc, hz, _⟩ := DataW.trod_int h3 hb
    have e1 : cs[i]? = some (.int k z) := by
      have := congrArg (·[0]?) hc
      simpa [List.getElem?_take, List.getElem?_drop] using this
    have e2 : (xs.map (·.1))[i]? = some (DataW.lit (.int k z) : DataW H) := by
      rw [List.getElem?_map, List.getElem?_eq_getElem (by omega), hz]
      rfl
    rw [hxs] at e2
    simp only [List.getElem?_map, Option.map_eq_some_iff, DataW.lit.injEq, Lit.int.injEq, true_and] at e2
    obtain ⟨z', hz', rfl⟩ := e2
    simp [e1, hz']
  · rw [List.getElem?_eq_none (by omega), List.getElem?_eq_none (by simp; omega)]
theorem cells_of_rows {fuel : Nat} {t e : TypeId} {n m : Nat} {cs : List Value} {rows : List (List Int)} {p : List MemPlace} (ht : P.underlying t = some (.array n e)) (he : P.cellsOf e = m) (hct : P.cellsOf t = n * m)
    (hs : ∀ (cs' : List Value) (fuel' : Nat) (zs : List Int) (p' : List MemPlace), DataW.trod enc P w base sp held fuel' e cs' = some (litRow k zs, p') → cs' = zs.map fun z => Value.int k z)
    (h : DataW.trod enc P w base sp held fuel t cs = some (.agg (rows.map (litRow k)), p)) :
    cs.length = n * m ∧ rows.length = n ∧ ∀ i r, rows[i]? = some r → (cs.drop (i * m)).take m = r.map fun z => Value.int k z := by
  cases fuel with
  | zero => simp [DataW.trod] at h
  | succ fuel =>
    simp only [DataW.trod, ht, he, hct] at h
    split at h
    · rename_i hl
      obtain ⟨xs, hm, hx⟩ := Option.map_eq_some_iff.1 h
      have hxs : xs.map (·.1) = rows.map (litRow k) := by
        have := congrArg Prod.fst hx
        simpa using this
      have hxl : xs.length = n := by simpa using Lib.mapM_length hm
      have hzl : rows.length = n := by
        have := congrArg List.length hxs
        simp at this
        omega
      refine ⟨hl, hzl, fun i r hr => ?_⟩
      have hi : i < n := by rw [← hzl]; exact (List.getElem?_eq_some_iff.1 hr).1
      obtain ⟨b, hb, hf⟩ := Lib.mapM_at hm i i (by simp [hi])
      have h2 : (xs.map (·.1))[i]? = some (litRow k r) := by rw [hxs, List.getElem?_map, hr]; rfl
      rw [List.getElem?_map, hb] at h2
      have h3 : b.1 = litRow k r := by simpa using h2
      obtain ⟨b1, b2⟩ := b
      subst h3
      exact hs _ _ _ _ hf
    · cases h
end
theorem four (cs : List Value) (h : cs.length = 16) : cs = (cs.drop (0 * 4)).take 4 ++ ((cs.drop (1 * 4)).take 4 ++ ((cs.drop (2 * 4)).take 4 ++ (cs.drop (3 * 4)).take 4)) := by
  have e3 : (cs.drop (3 * 4)).take 4 = cs.drop 12 := List.take_of_length_le (by simp; omega)
  have e2 : (cs.drop (2 * 4)).take 4 ++ cs.drop 12 = cs.drop 8 := by
    have := List.take_append_drop 4 (cs.drop 8)
    rwa [List.drop_drop] at this
  have e1 : (cs.drop (1 * 4)).take 4 ++ cs.drop 8 = cs.drop 4 := by
    have := List.take_append_drop 4 (cs.drop 4)
    rwa [List.drop_drop] at this
  rw [e3, e2, e1]
  simp
set_option maxRecDepth 20000 in
theorem form_rows {W : World} {fuel : Nat} {cs : List Value} {zs : List Int} {p : List MemPlace} (h : DataW.trod (fun _ => ()) Tryd.prog W 0 (fun _ => true) false fuel 113 cs = some (litRow .i64 zs, p)) : cs = zs.map fun z => Value.int .i64 z :=
  cells_of_struct Tryd.underlying113 (by kernel_rfl) (fun i f hf => by
    match i, hf with
    | 0, hf => cases hf; exact ⟨rfl, by kernel_rfl, Tryd.underlying3⟩
    | 1, hf => cases hf; exact ⟨rfl, by kernel_rfl, Tryd.underlying3⟩
    | 2, hf => cases hf; exact ⟨rfl, by kernel_rfl, Tryd.underlying3⟩
    | 3, hf => cases hf; exact ⟨rfl, by kernel_rfl, Tryd.underlying3⟩
    | i + 4, hf => simp at hf) h
set_option maxRecDepth 20000 in
theorem gForms : Tryd.prog.globalNamed "davenport/utf.forms" = some 2 := by kernel_rfl
set_option maxRecDepth 20000 in
theorem gFormsType : (Tryd.prog.globals[2]?).map (·.type) = some 116 := by kernel_rfl
set_option maxRecDepth 20000 in
/-- The condition of a row gives the table. -/
theorem utab_of {W : World} (h : Lib.VarReads Tryd.prog W "davenport/utf.forms" Rows.laid_davenport_utf_forms) : UTab W := by
  obtain ⟨g', t', cs, fuel, p, hg', ht', hvar, hd⟩ := h
  obtain rfl := Option.some.inj (gForms.symm.trans hg')
  obtain rfl := Option.some.inj (gFormsType.symm.trans ht')
  obtain ⟨hl, -, hr⟩ := cells_of_rows (k := .i64) (m := 4) (rows := [[0, 127, 1, 0], [128, 2047, 2, 192], [2048, 65535, 3, 224], [65536, 1114111, 4, 240]]) Tryd.underlying116 (by kernel_rfl) (by kernel_rfl) (fun cs' f' zs p' h' => form_rows h') hd
  have e := four cs.toList hl
  rw [hr 0 _ rfl, hr 1 _ rfl, hr 2 _ rfl, hr 3 _ rfl] at e
  intro i v hi
  have hc := World.var?_cell gForms hvar i
  rw [Nat.zero_add, hc, ← Array.getElem?_toList, e]
  exact hi
end Go.Proofs.YtndolgbbochpjaaDoor
/-
  A laid variable that is an array of structs of mixed kinds: its cells, out of what it reads as.
-/
namespace Go.Proofs.YtndolgbbochpjaaDoor
open Go.RowKit

section
variable {H : Type} {enc : TypeId × Value → H} {P : Program} {w : World} {base : Nat} {sp : Nat → Bool} {held : Bool}
theorem cells_of_rowsG {R : Type} {F : R → DataW H} {V : R → List Value} {fuel : Nat} {t e : TypeId} {n m : Nat} {cs : List Value} {rows : List R} {p : List MemPlace} (ht : P.underlying t = some (.array n e)) (he : P.cellsOf e = m) (hct : P.cellsOf t = n * m)
    (hs : ∀ (cs' : List Value) (fuel' : Nat) (r : R) (p' : List MemPlace), DataW.trod enc P w base sp held fuel' e cs' = some (F r, p') → cs' = V r)
    (h : DataW.trod enc P w base sp held fuel t cs = some (.agg (rows.map F), p)) :
    cs.length = n * m ∧ rows.length = n ∧ ∀ i r, rows[i]? = some r → (cs.drop (i * m)).take m = V r := by
  cases fuel with
  | zero => simp [DataW.trod] at h
  | succ fuel =>
    simp only [DataW.trod, ht, he, hct] at h
    split at h
    · rename_i hl
      obtain ⟨xs, hm, hx⟩ := Option.map_eq_some_iff.1 h
      have hxs : xs.map (·.1) = rows.map F := by
        have := congrArg Prod.fst hx
        simpa using this
      have hxl : xs.length = n := by simpa using Lib.mapM_length hm
      have hzl : rows.length = n := by
        have := congrArg List.length hxs
        simp at this
        omega
      refine ⟨hl, hzl, fun i r hr => ?_⟩
      have hi : i < n := by rw [← hzl]; exact (List.getElem?_eq_some_iff.1 hr).1
      obtain ⟨b, hb, hf⟩ := Lib.mapM_at hm i i (by simp [hi])
      have h2 : (xs.map (·.1))[i]? = some (F r) := by rw [hxs, List.getElem?_map, hr]; rfl
      rw [List.getElem?_map, hb] at h2
      have h3 : b.1 = F r := by simpa using h2
      obtain ⟨b1, b2⟩ := b
      subst h3
      exact hs _ _ _ _ hf
    · cases h
end
theorem chunk {cs L : List Value} {q m r : Nat} {v : Value} (h : (cs.drop (q * m)).take m = L) (hv : L[r]? = some v) : cs[q * m + r]? = some v := by
  rw [← h, List.getElem?_take] at hv
  split at hv
  · rwa [List.getElem?_drop] at hv
  · cases hv
end Go.Proofs.YtndolgbbochpjaaDoor
/-
  Layer 4: the table of shapes out of a row's condition.
-/
namespace Go.Proofs.YtndolgbbochpjaaDoor
open Go.RowKit
set_option linter.unusedVariables false

theorem six_of {α : Type} (l : List α) (h : l.length = 6) : ∃ a b c d e f, l = [a, b, c, d, e, f] := by
  match l, h with
  | [a, b, c, d, e, f], _ => exact ⟨a, b, c, d, e, f, rfl⟩
/-- A row of the table, as it reads and as it lies. -/
def shpF (r : Bool × Bool × Int × Bool × Bool × Bool) : DataW Unit := .agg [.lit (.bool r.1), .lit (.bool r.2.1), .lit (.int .i64 r.2.2.1), .lit (.bool r.2.2.2.1), .lit (.bool r.2.2.2.2.1), .lit (.bool r.2.2.2.2.2)]
def shpV (r : Bool × Bool × Int × Bool × Bool × Bool) : List Value := [.bool r.1, .bool r.2.1, .int .i64 r.2.2.1, .bool r.2.2.2.1, .bool r.2.2.2.2.1, .bool r.2.2.2.2.2]
set_option maxRecDepth 20000 in
theorem shp_rows {W : World} {fuel : Nat} {cs : List Value} {r : Bool × Bool × Int × Bool × Bool × Bool} {p : List MemPlace} (h : DataW.trod (fun _ => ()) Tryd.prog W 0 (fun _ => true) false fuel 100 cs = some (shpF r, p)) : cs = shpV r := by
  obtain ⟨xs, n, _, hx, hl, hlen, hfx⟩ := DataW.trod_struct Tryd.underlying100 h
  have hxs : xs.map (·.1) = [.lit (.bool r.1), .lit (.bool r.2.1), .lit (.int .i64 r.2.2.1), .lit (.bool r.2.2.2.1), .lit (.bool r.2.2.2.2.1), .lit (.bool r.2.2.2.2.2)] := by
    have := congrArg Prod.fst hx
    simpa [shpF] using this.symm
  have hxl : xs.length = 6 := by
    have := congrArg List.length hxs
    simpa using this
  obtain ⟨x0, x1, x2, x3, x4, x5, rfl⟩ := six_of xs hxl
  injection hxs with e0 hxs
  injection hxs with e1 hxs
  injection hxs with e2 hxs
  injection hxs with e3 hxs
  injection hxs with e4 hxs
  injection hxs with e5 _
  obtain ⟨z0, c0, d0⟩ := DataW.trod_bool Tryd.underlying4 (hfx 0 _ rfl)
  obtain ⟨z1, c1, d1⟩ := DataW.trod_bool Tryd.underlying4 (hfx 1 _ rfl)
  obtain ⟨z2, c2, d2, _⟩ := DataW.trod_int Tryd.underlying2 (hfx 2 _ rfl)
  obtain ⟨z3, c3, d3⟩ := DataW.trod_bool Tryd.underlying4 (hfx 3 _ rfl)
  obtain ⟨z4, c4, d4⟩ := DataW.trod_bool Tryd.underlying4 (hfx 4 _ rfl)
  obtain ⟨z5, c5, d5⟩ := DataW.trod_bool Tryd.underlying4 (hfx 5 _ rfl)
  have hl' : cs.length = 6 := hl.trans (by kernel_rfl)
  have kb : Tryd.prog.cellsOf 4 = 1 := by kernel_rfl
  have ki : Tryd.prog.cellsOf 2 = 1 := by kernel_rfl
  obtain ⟨a, b, c, d, e, f, rfl⟩ := six_of cs hl'
  have c0' : List.take (Tryd.prog.cellsOf 4) [a, b, c, d, e, f] = _ := c0
  have c1' : List.take (Tryd.prog.cellsOf 4) [b, c, d, e, f] = _ := c1
  have c2' : List.take (Tryd.prog.cellsOf 2) [c, d, e, f] = _ := c2
  have c3' : List.take (Tryd.prog.cellsOf 4) [d, e, f] = _ := c3
  have c4' : List.take (Tryd.prog.cellsOf 4) [e, f] = _ := c4
  have c5' : List.take (Tryd.prog.cellsOf 4) [f] = _ := c5
  rw [kb] at c0' c1' c3' c4' c5'
  rw [ki] at c2'
  clear c0 c1 c2 c3 c4 c5
  simp only [List.take_succ_cons, List.take_zero, List.cons.injEq, and_true] at c0' c1' c2' c3' c4' c5'
  subst c0' c1' c2' c3' c4' c5'
  rw [d0] at e0
  rw [d1] at e1
  rw [d2] at e2
  rw [d3] at e3
  rw [d4] at e4
  rw [d5] at e5
  injection e0 with e0
  injection e1 with e1
  injection e2 with e2
  injection e3 with e3
  injection e4 with e4
  injection e5 with e5
  injection e0 with e0
  injection e1 with e1
  injection e2 with _ e2
  injection e3 with e3
  injection e4 with e4
  injection e5 with e5
  subst e0 e1 e2 e3 e4 e5
  rfl
set_option maxRecDepth 20000 in
theorem gShp : Tryd.prog.globalNamed "davenport/value.shapes" = some 1 := by kernel_rfl
set_option maxRecDepth 20000 in
theorem gShpType : (Tryd.prog.globals[1]?).map (·.type) = some 101 := by kernel_rfl
set_option maxRecDepth 20000 in
/-- The condition of a row gives the table. -/
theorem stab_of {W : World} (h : Lib.VarReads Tryd.prog W "davenport/value.shapes" Rows.laid_davenport_value_shapes) : STab W := by
  obtain ⟨g', t', cs, fuel, p, hg', ht', hvar, hd⟩ := h
  obtain rfl := Option.some.inj (gShp.symm.trans hg')
  obtain rfl := Option.some.inj (gShpType.symm.trans ht')
  obtain ⟨hl, -, hr⟩ := cells_of_rowsG (m := 6) (F := shpF) (V := shpV) (rows := [(false, false, 0, false, false, false), (true, false, 0, false, false, false), (true, false, 1, false, false, false), (true, true, 0, false, false, false), (true, false, 0, true, false, false), (true, false, 0, false, false, true), (true, false, 0, false, true, true)]) Tryd.underlying101 (by kernel_rfl) (by kernel_rfl) (fun cs' f' zs p' h' => shp_rows h') hd
  intro i v hi
  have hc := World.var?_cell gShp hvar i
  rw [Nat.zero_add, hc, ← Array.getElem?_toList]
  have hi42 : i < 42 := (List.getElem?_eq_some_iff.1 hi).1
  match i, hi42, hi with
  | 0, _, hi => exact (chunk (q := 0) (m := 6) (r := 0) (hr 0 _ rfl) rfl).trans hi
  | 1, _, hi => exact (chunk (q := 0) (m := 6) (r := 1) (hr 0 _ rfl) rfl).trans hi
  | 2, _, hi => exact (chunk (q := 0) (m := 6) (r := 2) (hr 0 _ rfl) rfl).trans hi
  | 3, _, hi => exact (chunk (q := 0) (m := 6) (r := 3) (hr 0 _ rfl) rfl).trans hi
  | 4, _, hi => exact (chunk (q := 0) (m := 6) (r := 4) (hr 0 _ rfl) rfl).trans hi
  | 5, _, hi => exact (chunk (q := 0) (m := 6) (r := 5) (hr 0 _ rfl) rfl).trans hi
  | 6, _, hi => exact (chunk (q := 1) (m := 6) (r := 0) (hr 1 _ rfl) rfl).trans hi
  | 7, _, hi => exact (chunk (q := 1) (m := 6) (r := 1) (hr 1 _ rfl) rfl).trans hi
  | 8, _, hi => exact (chunk (q := 1) (m := 6) (r := 2) (hr 1 _ rfl) rfl).trans hi
  | 9, _, hi => exact (chunk (q := 1) (m := 6) (r := 3) (hr 1 _ rfl) rfl).trans hi
  | 10, _, hi => exact (chunk (q := 1) (m := 6) (r := 4) (hr 1 _ rfl) rfl).trans hi
  | 11, _, hi => exact (chunk (q := 1) (m := 6) (r := 5) (hr 1 _ rfl) rfl).trans hi
  | 12, _, hi => exact (chunk (q := 2) (m := 6) (r := 0) (hr 2 _ rfl) rfl).trans hi
  | 13, _, hi => exact (chunk (q := 2) (m := 6) (r := 1) (hr 2 _ rfl) rfl).trans hi
  | 14, _, hi => exact (chunk (q := 2) (m := 6) (r := 2) (hr 2 _ rfl) rfl).trans hi
  | 15, _, hi => exact (chunk (q := 2) (m := 6) (r := 3) (hr 2 _ rfl) rfl).trans hi
  | 16, _, hi => exact (chunk (q := 2) (m := 6) (r := 4) (hr 2 _ rfl) rfl).trans hi
  | 17, _, hi => exact (chunk (q := 2) (m := 6) (r := 5) (hr 2 _ rfl) rfl).trans hi
  | 18, _, hi => exact (chunk (q := 3) (m := 6) (r := 0) (hr 3 _ rfl) rfl).trans hi
  | 19, _, hi => exact (chunk (q := 3) (m := 6) (r := 1) (hr 3 _ rfl) rfl).trans hi
  | 20, _, hi => exact (chunk (q := 3) (m := 6) (r := 2) (hr 3 _ rfl) rfl).trans hi
  | 21, _, hi => exact (chunk (q := 3) (m := 6) (r := 3) (hr 3 _ rfl) rfl).trans hi
  | 22, _, hi => exact (chunk (q := 3) (m := 6) (r := 4) (hr 3 _ rfl) rfl).trans hi
  | 23, _, hi => exact (chunk (q := 3) (m := 6) (r := 5) (hr 3 _ rfl) rfl).trans hi
  | 24, _, hi => exact (chunk (q := 4) (m := 6) (r := 0) (hr 4 _ rfl) rfl).trans hi
  | 25, _, hi => exact (chunk (q := 4) (m := 6) (r := 1) (hr 4 _ rfl) rfl).trans hi
  | 26, _, hi => exact (chunk (q := 4) (m := 6) (r := 2) (hr 4 _ rfl) rfl).trans hi
  | 27, _, hi => exact (chunk (q := 4) (m := 6) (r := 3) (hr 4 _ rfl) rfl).trans hi
  | 28, _, hi => exact (chunk (q := 4) (m := 6) (r := 4) (hr 4 _ rfl) rfl).trans hi
  | 29, _, hi => exact (chunk (q := 4) (m := 6) (r := 5) (hr 4 _ rfl) rfl).trans hi
  | 30, _, hi => exact (chunk (q := 5) (m := 6) (r := 0) (hr 5 _ rfl) rfl).trans hi
  | 31, _, hi => exact (chunk (q := 5) (m := 6) (r := 1) (hr 5 _ rfl) rfl).trans hi
  | 32, _, hi => exact (chunk (q := 5) (m := 6) (r := 2) (hr 5 _ rfl) rfl).trans hi
  | 33, _, hi => exact (chunk (q := 5) (m := 6) (r := 3) (hr 5 _ rfl) rfl).trans hi
  | 34, _, hi => exact (chunk (q := 5) (m := 6) (r := 4) (hr 5 _ rfl) rfl).trans hi
  | 35, _, hi => exact (chunk (q := 5) (m := 6) (r := 5) (hr 5 _ rfl) rfl).trans hi
  | 36, _, hi => exact (chunk (q := 6) (m := 6) (r := 0) (hr 6 _ rfl) rfl).trans hi
  | 37, _, hi => exact (chunk (q := 6) (m := 6) (r := 1) (hr 6 _ rfl) rfl).trans hi
  | 38, _, hi => exact (chunk (q := 6) (m := 6) (r := 2) (hr 6 _ rfl) rfl).trans hi
  | 39, _, hi => exact (chunk (q := 6) (m := 6) (r := 3) (hr 6 _ rfl) rfl).trans hi
  | 40, _, hi => exact (chunk (q := 6) (m := 6) (r := 4) (hr 6 _ rfl) rfl).trans hi
  | 41, _, hi => exact (chunk (q := 6) (m := 6) (r := 5) (hr 6 _ rfl) rfl).trans hi
end Go.Proofs.YtndolgbbochpjaaDoor
/-
  Layer 7: the table of ranks out of a row's condition.
-/
namespace Go.Proofs.YtndolgbbochpjaaDoor
open Go.RowKit
set_option linter.unusedVariables false

set_option maxRecDepth 20000 in
theorem gRk : Tryd.prog.globalNamed "davenport/collate.ranks" = some 0 := by kernel_rfl
set_option maxRecDepth 20000 in
theorem gRkType : (Tryd.prog.globals[0]?).map (·.type) = some 92 := by kernel_rfl
set_option maxRecDepth 20000 in
theorem rtab_of {W : World} (h : Lib.VarReads Tryd.prog W "davenport/collate.ranks" Rows.laid_davenport_collate_ranks) : RTab W := by
  obtain ⟨g', t', cs, fuel, p, hg', ht', hvar, hd⟩ := h
  obtain rfl := Option.some.inj (gRk.symm.trans hg')
  obtain rfl := Option.some.inj (gRkType.symm.trans ht')
  have hc : cs.toList = _ := Lib.cells_of_tab (zs := [0, 1, 2, 4, 5, 6, 7]) (k := .i64) (n := 7) (e := 3) (by kernel_rfl) Tryd.underlying3 (by kernel_rfl) (by kernel_rfl) hd
  intro i v hi
  have hc2 := World.var?_cell gRk hvar i
  rw [Nat.zero_add, hc2, ← Array.getElem?_toList, hc]
  exact hi
end Go.Proofs.YtndolgbbochpjaaDoor
