import Derived.Test.YtndolgbbochpjaaDoorGar
/-
  Layer 7: CollateWithin: what a row and an object that hold a value are, and what their order and check say of it.
-/
namespace Go.Proofs.YtndolgbbochpjaaDoor
open Go.RowKit
set_option linter.unusedVariables false

/-- A value's five cells lie in a box of their own. -/
def VBox (w : World) (g : Nat) : VT → Prop | .mk k n s cA cn cc kA kn kc _ _ => VFive w g (.int .i64 k) (.int .i64 n) (.string s) (.slice cA cn cc) (.slice kA kn kc)
theorem VBox.later {w W : World} {g : Nat} {T : VT} (h : VBox w g T) (hb : Below w.heap.size w W) : VBox W g T := by
  obtain ⟨k, n, s, cA, cn, cc, kA, kn, kc, keys, kids⟩ := T
  exact VFive.later h hb
def RowIn (L : List VT) (m : Nat) (z a X : VT) : Prop := ∃ A c, X = lsV A (m + 1 + 1) c (L ++ [a, z])
def ObjIn (p q : ByteArray) (z a X : VT) : Prop := ∃ A K, X = .mk 6 0 ⟨#[]⟩ A 2 2 K 2 2 [p, q] [a, z]
/-- What the law asks of a way to put a value within a value. -/
def InsP (R : VT → VT → Prop) (a b : VT) : Prop := (∀ X Y, R a X → R b Y → X.ok = true → cmpV X Y = cmpV a b) ∧ ∀ x X X', R x X → R x X' → X.ok = X'.ok
theorem rowIn_ins {L : List VT} {m : Nat} {z a b : VT} (ha : a.Szd) (hb : b.Szd) : InsP (RowIn L m z) a b := by
  refine ⟨?_, ?_⟩
  · rintro X Y ⟨A, c, rfl⟩ ⟨A', c', rfl⟩ h
    exact cmpV_rowW ha hb h
  · rintro x X X' ⟨A, c, rfl⟩ ⟨A', c', rfl⟩
    unfold VT.ok
    rw [dep_mk, dep_mk, cnt_mk, cnt_mk, all_mk, all_mk]
    rfl
theorem objIn_ins {p q : ByteArray} {z a b : VT} (ha : a.Szd) (hb : b.Szd) : InsP (ObjIn p q z) a b := by
  refine ⟨?_, ?_⟩
  · rintro X Y ⟨A, K, rfl⟩ ⟨A', K', rfl⟩ h
    exact cmpV_objW ha hb h
  · rintro x X X' ⟨A, K, rfl⟩ ⟨A', K', rfl⟩
    unfold VT.ok
    rw [dep_mk, dep_mk, cnt_mk, cnt_mk, all_mk, all_mk]
    rfl
/-- What Compare says of two, by letters. -/
def CmpW (X Y : VT) (u f : Int) : Prop := ((X.ok && Y.ok) = true ∧ u = cmpV X Y ∧ f = 0) ∨ ((X.ok && Y.ok) = false ∧ u = 0 ∧ f = 140)
theorem cmpT_cases (X Y : VT) : ∃ u f : Int, cmpT X Y = .tuple #[.int .i64 u, .int .i64 f] ∧ CmpW X Y u f := by
  unfold cmpT
  cases h : X.ok && Y.ok
  · exact ⟨0, 140, by rw [if_neg (by decide)], .inr ⟨h, rfl, rfl⟩⟩
  · exact ⟨cmpV X Y, 0, by rw [if_pos rfl], .inl ⟨h, rfl, rfl⟩⟩
theorem cmpW_bits {X Y : VT} {u f : Int} (h : ((X.ok && Y.ok) = true ∧ u = cmpV X Y ∧ f = 0) ∨ ((X.ok && Y.ok) = false ∧ u = 0 ∧ f = 140)) : ∃ p q : Bool, X.ok = p ∧ Y.ok = q ∧ ((p && q) = true → u = cmpV X Y ∧ f = 0) ∧ ((p && q) = false → u = 0 ∧ f = 140) := by
  refine ⟨_, _, rfl, rfl, fun hT => ?_, fun hF => ?_⟩
  · rcases h with ⟨_, h1, h2⟩ | ⟨h, _, _⟩
    · exact ⟨h1, h2⟩
    · rw [hT] at h; cases h
  · rcases h with ⟨h, _, _⟩ | ⟨_, h1, h2⟩
    · rw [hF] at h; cases h
    · exact ⟨h1, h2⟩
theorem putRow_any (w : World) (a z : VT) (pa pb : Nat) (A : Option Addr) (m c B : Nat) (L : List VT) (hA : w.cell? ⟨pa, 0, none⟩ = some (.slice A m c)) (hS : Shows w B 5 A m (L.flatMap VT.cells)) (hL : ∀ x ∈ L, Lie w B x) (hB : B ≤ w.heap.size) (hm : m ≤ 1000) (hV : VBox w pb z) (ha : Lie w B a) (hz : Lie w B z) :
    Calls Tryd.prog 26 #[a.agg, .pointer (some ⟨pa, 0, none⟩), .pointer (some ⟨pb, 0, none⟩)] w fun e w' => ∃ X : VT, e = .returned X.agg ∧ Hid (RowIn L m z a X) ∧ Lie w' w'.heap.size X ∧ Below w.heap.size w w' := by
  have hz' := hz
  obtain ⟨k, n, s, cA, cn, cc, kA, kn, kc, keys, kids⟩ := a
  obtain ⟨k', n', s', cA', cn', cc', kA', kn', kc', keys', kids'⟩ := z
  refine (wrow_any w pa pb k n s cA cn cc kA kn kc k' n' s' cA' cn' cc' kA' kn' kc' A m c B L hA hS hB hm hV).mono ?_
  rintro e w' ⟨A', c', rfl, ho, hb⟩
  obtain ⟨A2, c2, e2, hn2, hm2⟩ := own_form ho.out
  injection e2 with e3 e4 e5
  subst e5
  refine ⟨lsV A' (m + 1 + 1) c' (L ++ [.mk k n s cA cn cc kA kn kc keys kids, .mk k' n' s' cA' cn' cc' kA' kn' kc' keys' kids']), rfl, Lib.hid ⟨A', c', rfl⟩, ?_, hb⟩
  have hs := Shows.own ho.out
  exact lie_rowW (by simpa [List.flatMap_append, VT.cells] using hs) (fun x hx => ((hL x hx).later (hb.mono hB)).more (Nat.le_trans hB hb.size)) ((ha.later (hb.mono hB)).more (Nat.le_trans hB hb.size)) ((hz.later (hb.mono hB)).more (Nat.le_trans hB hb.size)) (own_noneS ho.out) hn2 hm2
theorem putObj_any (w : World) (a z : VT) (pk pb : Nat) (key : ByteArray) (B : Nat) (hkey : w.cell? ⟨pk, 0, none⟩ = some (.string key)) (hks : key.size ≤ 1048576) (hB : B ≤ w.heap.size) (hV : VBox w pb z) (ha : Lie w B a) (hz : Lie w B z) :
    Calls Tryd.prog 28 #[a.agg, .pointer (some ⟨pk, 0, none⟩), .pointer (some ⟨pb, 0, none⟩)] w fun e w' => ∃ X : VT, e = .returned X.agg ∧ Hid (ObjIn key (key ++ ⟨#[122]⟩) z a X) ∧ Lie w' w'.heap.size X ∧ Below w.heap.size w w' := by
  have hMx : 1048577 ≤ maxLen := by decide
  obtain ⟨k, n, s, cA, cn, cc, kA, kn, kc, keys, kids⟩ := a
  obtain ⟨k', n', s', cA', cn', cc', kA', kn', kc', keys', kids'⟩ := z
  refine (wobj_any w key pk pb k n s cA cn cc kA kn kc k' n' s' cA' cn' cc' kA' kn' kc' hkey hks hV).mono ?_
  rintro e w' ⟨g, rfl, hsk, hsv, hb⟩
  refine ⟨.mk 6 0 ⟨#[]⟩ (some ⟨g + 1, 0, none⟩) 2 2 (some ⟨g, 0, none⟩) 2 2 [key, key ++ ⟨#[122]⟩] [.mk k n s cA cn cc kA kn kc keys kids, .mk k' n' s' cA' cn' cc' kA' kn' kc' keys' kids'], rfl, Lib.hid ⟨_, _, rfl⟩, ?_, hb⟩
  exact lie_objW hsv hsk ((ha.later (hb.mono hB)).more (Nat.le_trans hB hb.size)) ((hz.later (hb.mono hB)).more (Nat.le_trans hB hb.size)) (by omega) (by rw [ByteArray.size_append]; show key.size + 1 ≤ maxLen; omega)
set_option maxRecDepth 20000 in
set_option maxHeartbeats 1000000 in
theorem someW_any (A0 : Option Addr) (n0 c0 B : Nat) (l0 : List VT) (w : World) (h0 : Shows w B 5 A0 n0 (l0.flatMap VT.cells)) (hB : B ≤ w.heap.size) (hc0 : n0 ≤ c0) (hM0 : c0 ≤ maxLen) :
    Calls Tryd.prog 14 #[.slice A0 n0 c0] w fun e w' => ∃ A c, e = .returned (.slice A (min n0 20) c) ∧ Hid (w'.ownsRow w.heap.size 25 5 (.slice A (min n0 20) c) (min n0 20) ((l0.take (min n0 20)).flatMap VT.cells)) ∧ Below w.heap.size w w' := by
  obtain ⟨iV, hiV, hzV, hsV, hbV⟩ := val_info
  obtain ⟨m, hm⟩ : ∃ m, m = min n0 20 := ⟨_, rfl⟩
  rw [← hm]
  have hmi : min (n0 : Int) 20 = (m : Int) := by omega
  have hmj : (if (20 : Int) < (n0 : Int) then (20 : Int) else (n0 : Int)) = (m : Int) := by split <;> omega
  have hmle : m ≤ 20 := by omega
  have hmn : m ≤ n0 := by omega
  have hz1 : (0 : Int) ≤ m := by omega
  have hi1 : (m : Int) ≤ n0 := by omega
  have hj1 : (m : Int) ≤ c0 := by omega
  have hsh : Shows w B 5 A0 m ((l0.take m).flatMap VT.cells) := by have := h0.first hmn; rwa [flat_take5] at this
  generalize l0.take m = L at *
  have hone := vcells_one L
  have hown := World.ownsRow_lit (base := w.heap.size) (e := 25) (size := 5) w #[] 0 (Nat.le_refl _) (Nat.zero_le _) rfl
  have hs := hsh.alloc hB (.cells #[] 25)
  have hMx : 20 ≤ maxLen := by decide
  clear hm h0 hsh
  go_enter Tryd.func14, Tryd.ntmps14
  go_wp2_with (at_builtin; refine wpList_append_shows _ rfl _ _ 22 rfl w.heap.size 25 iV _ 5 80 Tryd.underlying22 hiV hzV hsV hbV rfl (by decide) _ _ _ rfl hown B _ m _ (L.flatMap VT.cells) rfl hs hone (by omega) (by omega) (by simp) ?_; intro A7 c7 w7 hown7 hgrow7 hb7)
  have ho : w7.ownsRow w.heap.size 25 5 (.slice A7 m c7) m (L.flatMap VT.cells) := by simpa using hown7
  have hbx : Below w.heap.size w w7 := ((Below.refl _ _).alloc (Nat.le_refl _) _).trans hb7
  clear hown7
  go_wp2
  go_ret
  exact ⟨A7, c7, by first | rfl | simp, Lib.hid ho, hbx⟩
end Go.Proofs.YtndolgbbochpjaaDoor
