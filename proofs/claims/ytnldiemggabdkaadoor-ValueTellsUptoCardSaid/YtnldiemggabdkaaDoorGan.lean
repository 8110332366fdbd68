import Derived.Test.YtnldiemggabdkaaDoorGam
import Derived.Test.YtnldiemggabdkaaDoorRows
import Derived.Test.YtnldiemggabdkaaDoorGag
import Derived.Deep.Modes
import Derived.Test.YtnldiemggabdkaaDoorGai
import Derived.Test.YtnldiemggabdkaaDoorGaa
import Derived.Lib.LaidTab
import Derived.Lib.LaidU8
/-
  ValueTells: Get, At, Path and Len agree with the definitions: the walk.
-/
namespace Go.Proofs.YtnldiemggabdkaaDoor
open Go.RowKit
set_option linter.unusedVariables false

theorem sml_kid {N : Nat} {T K : VT} (h : Sml N T) (hm : K ∈ T.kids) : Sml N K := by
  cases h with | mk _ _ h => exact h K hm
theorem sml_path {N : Nat} : ∀ (p : List ByteArray) {T X : VT}, Sml N T → pathR T p = some X → Sml N X
  | [], T, X, h, e => by injection e with e; subst e; exact h
  | x :: p, T, X, h, e => by
    rw [pathR] at e
    cases hg : T.get x with
    | none => rw [hg] at e; cases e
    | some K => rw [hg] at e; exact sml_path p (sml_kid h (get_mem hg)) e
theorem path_okR : ∀ (p : List ByteArray) {T X : VT}, T.ok = true → pathR T p = some X → X.ok = true
  | [], T, X, h, e => by injection e with e; subst e; exact h
  | x :: p, T, X, h, e => by
    rw [pathR] at e
    cases hg : T.get x with
    | none => rw [hg] at e; cases e
    | some K => rw [hg] at e; exact path_okR p (ok_kid h (get_mem hg)) e
theorem lie_pathR {w : World} {B : Nat} : ∀ (p : List ByteArray) {T X : VT}, Lie w B T → pathR T p = some X → Lie w B X
  | [], T, X, h, e => by injection e with e; subst e; exact h
  | x :: p, T, X, h, e => by
    rw [pathR] at e
    cases hg : T.get x with
    | none => rw [hg] at e; cases e
    | some K => rw [hg] at e; exact lie_pathR p (lie_kid h (get_mem hg)) e
theorem sml_z (N : Nat) : Sml N (scV 0 0 ⟨#[]⟩) := .mk (Nat.zero_le _) (by simp) (by simp)
theorem lie_z (w : World) (B : Nat) : Lie w B (scV 0 0 ⟨#[]⟩) := lie_sc 0 0 _ _ _ (by decide) (by decide) (by decide)
theorem lenR_form (T : VT) : ∃ (a : Int) (b : Bool), lenR T = .tuple #[.int .i64 a, .bool b] := by
  unfold lenR
  split
  · split
    · exact ⟨_, _, rfl⟩
    · split
      · exact ⟨_, _, rfl⟩
      · exact ⟨_, _, rfl⟩
  · exact ⟨_, _, rfl⟩
/-- What is told of r by Y. -/
structure Tells (w : World) (B : Nat) (r : Option VT) (Y : VT) : Prop where
  y : ∀ X, r = some X → Y = X
  l : Lie w B Y
  s : Sml 1048576 Y
  ok : r.isSome = true → Y.ok = true
theorem Tells.of {w : World} {B : Nat} {r : Option VT} (hl : ∀ X, r = some X → Lie w B X ∧ Sml 1048576 X ∧ X.ok = true) : Tells w B r (orV r) := by
  cases r with
  | none => exact ⟨fun X h => (by cases h), lie_z _ _, sml_z _, fun h => (by cases h)⟩
  | some X => exact ⟨fun Y h => (by injection h), (hl X rfl).1, (hl X rfl).2.1, fun _ => (hl X rfl).2.2⟩
theorem Tells.none' {w : World} {B : Nat} {Y : VT} (hl : Lie w B Y) (hs : Sml 1048576 Y) : Tells w B none Y := ⟨fun X h => (by cases h), hl, hs, fun h => (by cases h)⟩
theorem Tells.pick {w : World} {B : Nat} {r : Option VT} {Y : VT} (hl : ∀ X, r = some X → Lie w B X ∧ Sml 1048576 X ∧ X.ok = true) (hY : Lie w B Y) (hS : Sml 1048576 Y) : Tells w B r (r.getD Y) := by
  cases r with
  | none => exact .none' hY hS
  | some X => exact Tells.of hl
theorem Tells.go {w W : World} {B : Nat} {r : Option VT} {Y : VT} (h : Tells w B r Y) (hb : Below w.heap.size w W) (hB : B ≤ w.heap.size) :
    Calls Tryd.prog 21 #[(orV r).agg, .bool r.isSome, Y.agg, .bool r.isSome] W fun e w' => e = .returned (.bool true) ∧ Below W.heap.size W w' :=
  told_any r Y B W h.y (h.l.later (hb.mono hB)) h.s h.ok (Nat.le_trans hB hb.size)
theorem at_some {T X : VT} {i : Int} (h : atR T i = some X) : T.k = 5 ∧ 0 ≤ i ∧ T.kids[i.toNat]? = some X := by
  unfold atR at h
  split at h
  · rename_i h2; exact ⟨h2.2.1, h2.2.2, h⟩
  · cases h
theorem five_later2 {w w1 : World} {g : Nat} {a b c d e a' b' c' d' e' : Value} (h : VFive w g a b c d e) : VFive (((((w.setCell ⟨g, 0, none⟩ a').setCell ⟨g, 1, none⟩ b').setCell ⟨g, 2, none⟩ c').setCell ⟨g, 3, none⟩ d').setCell ⟨g, 4, none⟩ e') g a' b' c' d' e' := h.set5

set_option maxRecDepth 20000 in
set_option maxHeartbeats 8000000 in
theorem vtells_any (w : World) (T : VT) (A1 : Option Addr) (n1 c1 : Nat) (l1 : List ByteArray) (i : Int) (B : Nat) (hL : Lie w B T) (hS : Sml 1048576 T) (hB : B ≤ w.heap.size)
    (h1 : Shows w B 1 A1 n1 (l1.map Value.string)) (hks : ∀ x ∈ l1, x.size ≤ maxLen) (hc1 : n1 ≤ c1) (hM1 : c1 ≤ maxLen) (htab : UTab w) (hst : STab w) :
    Calls Tryd.prog 4 #[T.agg, .slice A1 n1 c1, .int .i64 i] w fun e w' => e = .returned (.bool true) ∧ Below w.heap.size w w' := by
  obtain ⟨iS, hiS, hzS, hsS, hbS⟩ := vstr_info
  have HW := Lib.hid (fun W (h : Below w.heap.size w W) => vwakes_any W (htab.below h htab.lt) (hst.below h hst.lt))
  obtain ⟨m, hm⟩ : ∃ m, m = min n1 10 := ⟨_, rfl⟩
  have hmi : min (n1 : Int) 10 = (m : Int) := by omega
  have hmj : (if (10 : Int) < (n1 : Int) then (10 : Int) else (n1 : Int)) = (m : Int) := by split <;> omega
  have hmle : m ≤ 10 := by omega
  have hmn : m ≤ n1 := by omega
  have hz1 : (0 : Int) ≤ m := by omega
  have hi1 : (m : Int) ≤ n1 := by omega
  have hj1 : (m : Int) ≤ c1 := by omega
  have hsh : Shows w B 1 A1 m ((l1.take m).map Value.string) := by have := h1.first hmn; rwa [Nat.mul_one, ← List.map_take] at this
  have hlen : (l1.take m).length = m := keys_len hsh
  generalize l1.take m = L at *
  have hone : ∀ u ∈ L.map Value.string, u.oneCell' = true := by
    intro u hu
    obtain ⟨x, _, rfl⟩ := List.mem_map.1 hu
    rfl
  have Hsh := Lib.hid (fun W (h : Below w.heap.size w W) => hsh.below (h.mono hB))
  have hMx : 10 ≤ maxLen := by decide
  obtain ⟨key, hkey⟩ : ∃ key, key = (if 0 < m then L.getD 0 ⟨#[]⟩ else ⟨#[97]⟩) := ⟨_, rfl⟩
  have Hkey := Lib.hid hkey
  have HR := Lib.hid (fun W (h : Below w.heap.size w W) => right_any T B W (hL.later (h.mono hB)) hS (Nat.le_trans hB h.size))
  have HG0 := Lib.hid (fun W (h : Below w.heap.size w W) => get_any B W T key (hL.later (h.mono hB)) (Nat.le_trans hB h.size) (htab.below h htab.lt) (hst.below h hst.lt))
  have HA0 := Lib.hid (fun W (h : Below w.heap.size w W) => at_any B W T i (hL.later (h.mono hB)) (Nat.le_trans hB h.size) (htab.below h htab.lt) (hst.below h hst.lt))
  have HP0 := Lib.hid (fun A c B2 W (h : Below w.heap.size w W) (hs : Shows W B2 1 A m (L.map Value.string)) hB2 => path_any B W T A m c L B2 (hL.later (h.mono hB)) (Nat.le_trans hB h.size) hs hB2 (by omega) (htab.below h htab.lt) (hst.below h hst.lt))
  have HLe0 := Lib.hid (fun W (h : Below w.heap.size w W) => len_any B W T (hL.later (h.mono hB)) (Nat.le_trans hB h.size) (by cases hS with | mk h _ _ => exact h) (htab.below h htab.lt) (hst.below h hst.lt))
  have HTo := Lib.hid (fun r Y (h : Tells w B r Y) W (hb : Below w.heap.size w W) => h.go hb hB)
  clear hm h1 hsh hM1 htab hst hks hkey
  have hbT := bel_alloc (Below.refl w.heap.size w)
  have HRG := Lib.hid (fun (hok : T.ok = true) W (h : Below w.heap.size w W) => rget_any T key B W (hL.later (h.mono hB)) (Nat.le_trans hB h.size) (ok_all hok))
  have HRP := Lib.hid (fun (hok : T.ok = true) A c B2 W (h : Below w.heap.size w W) (hs : Shows W B2 1 A m (L.map Value.string)) hB2 hmc hcm => rpath_any L T A m c B B2 W (hL.later (h.mono hB)) (Nat.le_trans hB h.size) hok hs hB2 hmc hcm)
  have HRL := Lib.hid (fun (hok : T.ok = true) W (h : Below w.heap.size w W) => rlen_any T B W (hL.later (h.mono hB)) (Nat.le_trans hB h.size) hok hS)
  have hk1 : ∀ X, (if T.ok = true then T.get key else none) = some X → Lie w B X ∧ Sml 1048576 X ∧ X.ok = true := by
    intro X h
    split at h
    · rename_i hok; exact ⟨lie_kid hL (get_mem h), sml_kid hS (get_mem h), ok_kid hok (get_mem h)⟩
    · cases h
  have hk2 : ∀ X, atR T i = some X → Lie w B X ∧ Sml 1048576 X ∧ X.ok = true := by
    intro X h
    have hok : T.ok = true := by unfold atR at h; split at h; exact (by assumption : _ ∧ _ ∧ _).1; cases h
    have hm := List.mem_of_getElem? (at_some h).2.2
    exact ⟨lie_kid hL hm, sml_kid hS hm, ok_kid hok hm⟩
  have hk3 : ∀ X, (if T.ok = true then pathR T L else none) = some X → Lie w B X ∧ Sml 1048576 X ∧ X.ok = true := by
    intro X h
    split at h
    · rename_i hok; exact ⟨lie_pathR L hL h, sml_path L hS h, path_okR L hok h⟩
    · cases h
  have HG1 := Lib.hid (fun (hok : T.ok = true) => (show (if T.ok = true then T.get key else none) = T.get key by rw [if_pos hok]))
  have HG2 := Lib.hid (fun (hok : T.ok = true) => (show (if T.ok = true then pathR T L else none) = pathR T L by rw [if_pos hok]))
  have HN1 := Lib.hid (fun (hok : T.ok = false) => (show (if T.ok = true then T.get key else none) = none by rw [hok]; rfl))
  have HN2 := Lib.hid (fun (hok : T.ok = false) => (show (if T.ok = true then pathR T L else none) = none by rw [hok]; rfl))
  have HN3 := Lib.hid (fun (hok : T.ok = false) => (show atR T i = none by unfold atR; rw [if_neg (fun h => by rw [hok] at h; cases h.1)]))
  have HNl := Lib.hid (fun (hok : T.ok = false) => (show lenR T = .tuple #[.int .i64 0, .bool false] by unfold lenR; rw [hok]; rfl))
  have HAx := Lib.hid (fun X (h : atR T i = some X) => at_some h)
  have HAn := Lib.hid (fun (hok : T.ok = true) (h5 : T.k = 5) (h0 : 0 ≤ i) => (show atR T i = T.kids[i.toNat]? by unfold atR; rw [if_pos ⟨hok, h5, h0⟩]))
  simp only [memR_orV] at HG0 HA0 HP0
  generalize (if T.ok = true then T.get key else none) = r1 at *
  generalize (if T.ok = true then pathR T L else none) = r3 at *
  generalize hr2 : atR T i = r2 at *
  have T1 := Lib.hid (Tells.of hk1)
  have T3 := Lib.hid (Tells.of hk3)
  have T2 := Lib.hid (Tells.pick hk2 T1.out.l T1.out.s)
  have HX2 := Lib.hid (show r2 = none → r2.getD (orV r1) = orV r1 from fun h => by rw [h]; rfl)
  have HX2' := Lib.hid (show ∀ X, r2 = some X → r2.getD (orV r1) = X ∧ orV r2 = X from fun X h => by rw [h]; exact ⟨rfl, rfl⟩)
  generalize hY2 : r2.getD (orV r1) = Y2 at *
  clear hY2 hr2 hk1 hk2 hk3
  obtain ⟨la, lb, hlf⟩ := lenR_form T
  have HRG1 := Lib.hid (fun (hok : T.ok = true) W (h : Below w.heap.size w W) => by
    have := HRG.out hok W h
    rwa [← HG1.out hok, memR_orV] at this)
  have HRP1 := Lib.hid (fun (hok : T.ok = true) A c B2 W (h : Below w.heap.size w W) hs hB2 hmc hcm => by
    have := HRP.out hok A c B2 W h hs hB2 hmc hcm
    rwa [← HG2.out hok, memR_orV] at this)
  rw [hlf] at HLe0 HRL HNl
  have HT1 := Lib.hid (HTo.out r1 _ T1.out)
  have HT2 := Lib.hid (HTo.out r2 _ T2.out)
  have HT3 := Lib.hid (HTo.out r3 _ T3.out)
  have HO1 := Lib.hid (show r1 = none → orV r1 = scV 0 0 ⟨#[]⟩ from fun h => by rw [h]; rfl)
  generalize hX1 : orV r1 = X1 at *
  generalize hX2 : orV r2 = X2 at *
  generalize hX3 : orV r3 = X3 at *
  have Hlie := Lib.hid (fun W (h : Below w.heap.size w W) => hL.later (h.mono hB))
  have HO3 := Lib.hid (show r3 = none → X3 = scV 0 0 ⟨#[]⟩ from fun h => by rw [← hX3, h]; rfl)
  generalize hq2 : r2.isSome = q2 at *
  have Hq2 := Lib.hid hq2
  clear hq2
  generalize hok : T.ok = ok at *
  clear hX1 hX2 hX3 hlf hok hL hS HTo T1 T2 T3 HRG HRP
  obtain ⟨k, n, s, cA, cn, cc, kA, kn, kc, keys, kids⟩ := T
  obtain ⟨k1, n1', s1, cA1, cn1, cc1, kA1, kn1, kc1, keys1, kids1⟩ := X1
  obtain ⟨k2, n2, s2, cA2, cn2, cc2, kA2, kn2, kc2, keys2, kids2⟩ := X2
  obtain ⟨k3, n3, s3, cA3, cn3, cc3, kA3, kn3, kc3, keys3, kids3⟩ := X3
  obtain ⟨k4, n4, s4, cA4, cn4, cc4, kA4, kn4, kc4, keys4, kids4⟩ := Y2
  simp only [VT.agg] at HR HG0 HA0 HP0 HLe0 HRG1 HRP1 HRL HT1 HT2 HT3 ⊢
  have Hv := Lib.hid (VFive.new w (.int .i64 k) (.int .i64 n) (.string s) (.slice cA cn cc) (.slice kA kn kc) 25 w.heap.size rfl)
  have hb1 := hbT (.cells #[.int .i64 k, .int .i64 n, .string s, .slice cA cn cc, .slice kA kn kc] 25)
  clear hbT
  go_enter Tryd.func4, Tryd.ntmps4
  go_wp2_with fail
  refine (HW.out _ hb1).mono ?_
  rintro e W1 ⟨rfl, hb2⟩
  have hb3 := bel_next hb1 hb2
  have Hv1 := Lib.hid (Hv.out.later hb2)
  clear Hv hb1 hb2
  go_upto_region 3 with fail
  have hown := World.ownsRow_lit (base := W1.heap.size) (e := 9) (size := 1) W1 #[] 0 (Nat.le_refl _) (Nat.zero_le _) rfl
  have hs := (Hsh.out W1 hb3).alloc (Nat.le_trans hB hb3.size) (.cells #[] 9)
  go_cut [1] (fun s1 wx => ∃ A c, s1 = .slice A m c ∧ m ≤ c ∧ c ≤ maxLen ∧ Hid (Shows wx wx.heap.size 1 A m (L.map Value.string)) ∧ Below W1.heap.size W1 wx)
  case first =>
    go_wp2_with (at_builtin; refine wpList_append_shows _ rfl _ _ 23 rfl W1.heap.size 9 iS _ 1 16 Tryd.underlying23 hiS hzS hsS hbS rfl (by decide) _ _ _ rfl hown B _ m _ (L.map Value.string) rfl hs hone (by omega) (by omega) (by simp) ?_; intro A7 c7 w7 hown7 hgrow7 hb7)
    have ho : w7.ownsRow W1.heap.size 9 1 (.slice A7 m c7) m (L.map Value.string) := by simpa using hown7
    have hbx : Below W1.heap.size W1 w7 := ((Below.refl _ _).alloc (Nat.le_refl _) _).trans hb7
    obtain ⟨A8, c8, ef, hf1, hf2⟩ := own_form ho
    injection ef with e1 e2 e3
    subst e1
    subst e3
    clear e2
    clear hown7
    go_wp2
    go_meet
    case rel => exact ⟨_, _, by first | rfl | (simp; done), hf1, hf2, Lib.hid (Shows.own ho), hbx⟩
  case rest =>
    obtain ⟨A2, c2, rfl, hmc2, hc2m, H2, hbc⟩ := hcut
    rename World => W2
    have hb4 := bel_next hb3 hbc
    have Hv2 := Lib.hid (Hv1.out.later hbc)
    clear Hv1 hs hown hbc hb3
    obtain ⟨⟨v0, v1, v2, v3, v4⟩, -⟩ := Hv2.out
    go_wp2_with fail
    refine (HR.out _ hb4).mono ?_
    rintro e W3 ⟨rfl, hb5⟩
    have hb6 := bel_next hb4 hb5
    have Hv3 := Lib.hid (Hv2.out.later hb5)
    have H3 := Lib.hid ((H2.out.below hb5).more hb5.size)
    clear v0 v1 v2 v3 v4
    go_upto_if 30 with fail
    go_cut [8] (fun s8 wx => s8 = .string key ∧ W3 = wx)
    case first =>
      by_cases h0 : 0 < m
      · obtain ⟨b, off, rfl, _, hc⟩ := key_at H3.out h0
        have hc' : W3.cell? ⟨b, off, none⟩ = some (.string key) := by rw [Hkey.out, if_pos h0]; simpa using hc
        have h0' : (0 : Int) < (m : Int) := by omega
        clear hc
        go_wp2
        go_meet
        case rel => exact ⟨rfl, rfl⟩
      · obtain rfl : m = 0 := by omega
        go_wp2
        go_meet
        case rel => exact ⟨by rw [Hkey.out, if_neg (by omega)], rfl⟩
    case rest =>
      obtain ⟨rfl, rfl⟩ := hcut
      have hb7 := bel_alloc hb6 (.cells #[.int .i64 0, .int .i64 0, .string ⟨#[]⟩, .slice none 0 0, .slice none 0 0] 25)
      have Hv4 := Lib.hid (Hv3.out.alloc (.cells #[.int .i64 0, .int .i64 0, .string ⟨#[]⟩, .slice none 0 0, .slice none 0 0] 25))
      have Hw4 := Lib.hid (show VFive (W3.alloc (.cells #[.int .i64 0, .int .i64 0, .string ⟨#[]⟩, .slice none 0 0, .slice none 0 0] 25)) W3.heap.size (.int .i64 0) (.int .i64 0) (.string ⟨#[]⟩) (.slice none 0 0) (.slice none 0 0) from VFive.new _ _ _ _ _ _ _ _ rfl)
      go_upto_if 34 with fail
      go_cut [10] (fun s10 wx => s10 = .bool r1.isSome ∧ Hid (VFive wx W3.heap.size (.int .i64 k1) (.int .i64 n1') (.string s1) (.slice cA1 cn1 cc1) (.slice kA1 kn1 kc1)) ∧ W3.heap.size < wx.heap.size ∧ Below W3.heap.size W3 wx)
      case first =>
        cases ok
        · obtain rfl := HN1.out (by first | rfl | trivial)
          have hz := HO1.out rfl
          unfold scV at hz
          injection hz with e1 e2 e3 e4 e5 e6 e7 e8 e9 e10 e11
          subst e1 e2 e3 e4 e5 e6 e7 e8 e9 e10 e11
          simp only [Option.isSome_none] at *
          go_wp2
          go_meet
          case rel => exact ⟨rfl, Hw4, by simp, (Below.refl _ _).alloc (Nat.le_refl _) _⟩
        · obtain ⟨⟨v0, v1, v2, v3, v4⟩, -⟩ := Hv4.out
          go_wp2_with fail
          refine (HRG1.out (by first | rfl | trivial) _ hb7).mono ?_
          rintro e w4 ⟨rfl, hb8⟩
          have hw5 := Hw4.out.later hb8
          obtain ⟨⟨y0, y1, y2, y3, y4⟩, f0, f1, f2, f3, f4⟩ := hw5
          clear v0 v1 v2 v3 v4
          have hbx : Below W3.heap.size W3 w4 := ((Below.refl _ _).alloc (Nat.le_refl _) _).trans (hb8.mono (by simp))
          go_wp2
          go_meet
          case rel => exact ⟨rfl, Lib.hid (VFive.set5 (Hw4.out.later hb8)), by have := hb8.size; simp [World.setCell] at *; omega, vbelow_set5 hbx (Nat.le_refl _)⟩
      case rest =>
        obtain ⟨rfl, HWn, hlt3, hbc⟩ := hcut
        rename World => W4
        have hk4 := bel_next hb5 hbc
        have hb8 := bel_next hb4 hk4
        clear hb7 Hv4 Hw4 hbc Hv3 H3 hb6
        obtain ⟨⟨v0, v1, v2, v3, v4⟩, -⟩ := Hv2.out.later hk4
        go_wp2_with fail
        refine (HG0.out _ hb8).mono ?_
        rintro e W5 ⟨rfl, hb9⟩
        have hk5 := bel_alloc (bel_next hk4 hb9) (.cells #[.int .i64 k1, .int .i64 n1', .string s1, .slice cA1 cn1 cc1, .slice kA1 kn1 kc1] 25)
        have hb10 := bel_next hb4 hk5
        have HW6 := Lib.hid ((HWn.out.later hb9).alloc (.cells #[.int .i64 k1, .int .i64 n1', .string s1, .slice cA1 cn1 cc1, .slice kA1 kn1 kc1] 25))
        have Hg6 := Lib.hid (VFive.new W5 (.int .i64 k1) (.int .i64 n1') (.string s1) (.slice cA1 cn1 cc1) (.slice kA1 kn1 kc1) 25 W5.heap.size rfl)
        have hlt5 : W3.heap.size < W5.heap.size := by have := hb9.size; omega
        have hlt2 : W2.heap.size ≤ W3.heap.size := hb5.size
        have hltv : w.heap.size < W2.heap.size := VFive.lt Hv2.out
        clear v0 v1 v2 v3 v4
        obtain ⟨⟨y0, y1, y2, y3, y4⟩, -⟩ := HW6.out
        obtain ⟨⟨g0, g1, g2, g3, g4⟩, -⟩ := Hg6.out
        go_wp2_with fail
        refine (HT1.out _ hb10).mono ?_
        rintro e W6 ⟨rfl, hb11⟩
        have hk6 := bel_next hk5 hb11
        have hb12 := bel_next hb4 hk6
        have HW7 := Lib.hid (HW6.out.later hb11)
        have Hg7 := Lib.hid (Hg6.out.later hb11)
        clear y0 y1 y2 y3 y4 g0 g1 g2 g3 g4 HW6 Hg6 hb9 hb10 hb11 hk5 hb8
        go_upto_region 15 with fail
        go_cut [12] (fun s12 wx => s12 = .bool q2 ∧ Hid (VFive wx W3.heap.size (.int .i64 k1) (.int .i64 n1') (.string s1) (.slice cA1 cn1 cc1) (.slice kA1 kn1 kc1)) ∧ Hid (VFive wx W5.heap.size (.int .i64 k2) (.int .i64 n2) (.string s2) (.slice cA2 cn2 cc2) (.slice kA2 kn2 kc2)) ∧ Below W2.heap.size W2 wx)
        case first =>
          obtain ⟨⟨v0, v1, v2, v3, v4⟩, -⟩ := Hv2.out.later hk6
          go_wp2_with fail
          refine (HA0.out _ hb12).mono ?_
          rintro e W7 ⟨rfl, hb13⟩
          obtain ⟨⟨g0, g1, g2, g3, g4⟩, f0, f1, f2, f3, f4⟩ := Hg7.out.later hb13
          clear v0 v1 v2 v3 v4
          go_wp2
          go_meet
          case rel => exact ⟨rfl, Lib.hid (VFive.keep (HW7.out.later hb13) (set5_other _ _ _ _ _ _ _ _ (by omega))), Lib.hid (VFive.set5 (Hg7.out.later hb13)), vbelow_set5 (bel_next hk6 hb13) (by omega)⟩
        case rest =>
          obtain ⟨rfl, HW8, Hg8, hk8⟩ := hcut
          rename World => W8
          have hb14 := bel_next hb4 hk8
          clear HW7 Hg7 hk6 hb12
          go_upto_region 16 with fail
          go_cut [10] (fun s10 wx => s10 = .bool q2 ∧ W8 = wx)
          case first =>
            obtain ⟨⟨v0, v1, v2, v3, v4⟩, -⟩ := Hv2.out.later hk8
            cases ok
            · obtain rfl : q2 = false := by rw [← Hq2.out, HN3.out (by first | rfl | trivial)]; rfl
              go_wp2
              go_meet
              case rel => exact ⟨rfl, rfl⟩
            · have hlc : kids.length = cn := by cases Hlie.out w (Below.refl _ _) with | mk a _ _ _ => exact kids_len a
              by_cases h5 : k = 5
              · subst h5
                by_cases h0 : 0 ≤ i
                · have hat := HAn.out (by first | rfl | trivial) rfl h0
                  by_cases hlt : i < cn
                  · obtain rfl : q2 = true := by rw [← Hq2.out, hat, List.getElem?_eq_getElem (by show i.toNat < kids.length; omega)]; rfl
                    clear hat
                    go_wp2
                    go_meet
                    case rel => exact ⟨rfl, rfl⟩
                  · have hr : r2 = none := by rw [hat, List.getElem?_eq_none (by show kids.length ≤ i.toNat; omega)]
                    clear hat
                    obtain rfl : q2 = false := by rw [← Hq2.out, hr]; rfl
                    have hlt' : (i < (cn : Int)) = False := eq_false hlt
                    clear hlt
                    go_wp2
                    go_meet
                    case rel => exact ⟨rfl, rfl⟩
                · have hr : r2 = none := by
                    cases hq : r2 with
                    | none => rfl
                    | some X => exact absurd (HAx.out X hq).2.1 h0
                  obtain rfl : q2 = false := by rw [← Hq2.out, hr]; rfl
                  have h0' : (0 ≤ i) = False := eq_false h0
                  clear h0
                  go_wp2
                  go_meet
                  case rel => exact ⟨rfl, rfl⟩
              · have hr : r2 = none := by
                  cases hq : r2 with
                  | none => rfl
                  | some X => exact absurd (HAx.out X hq).1 h5
                obtain rfl : q2 = false := by rw [← Hq2.out, hr]; rfl
                have e5 : (k == 5) = false := by rw [beq_eq_false_iff_ne]; exact h5
                clear h5
                go_wp2
                go_meet
                case rel => exact ⟨rfl, rfl⟩
          case rest =>
            obtain ⟨rfl, rfl⟩ := hcut
            go_upto_if 76 with fail
            go_cut [] (fun wx => Hid (VFive wx W3.heap.size (.int .i64 k4) (.int .i64 n4) (.string s4) (.slice cA4 cn4 cc4) (.slice kA4 kn4 kc4)) ∧ Hid (VFive wx W5.heap.size (.int .i64 k2) (.int .i64 n2) (.string s2) (.slice cA2 cn2 cc2) (.slice kA2 kn2 kc2)) ∧ Below W2.heap.size W2 wx)
            case first =>
              cases hq : r2 with
              | none =>
                have hz := HX2.out hq
                injection hz with e1 e2 e3 e4 e5 e6 e7 e8 e9 e10 e11
                subst e1 e2 e3 e4 e5 e6 e7 e8 e9 e10 e11
                obtain rfl : q2 = false := by rw [← Hq2.out, hq]; rfl
                go_wp2
                go_meet
                case rel => exact ⟨HW8, Hg8, hk8⟩
              | some X =>
                obtain ⟨hz, -⟩ := HX2'.out X hq
                obtain ⟨h5, h0, hx⟩ := HAx.out X hq
                obtain rfl : k = 5 := h5
                replace hx : kids[i.toNat]? = some X := hx
                rw [← hz] at hx
                have hlie := Hlie.out W8 hb14
                cases hlie with | mk hkc _ _ _ =>
                have hlc := kids_len hkc
                have hin : i.toNat < cn := by rw [← hlc]; exact (List.getElem?_eq_some_iff.1 hx).1
                obtain ⟨b, off, x, rfl, _, hx2, h55⟩ := kids_at hkc hin
                rw [hx] at hx2
                injection hx2 with hx2
                subst hx2
                obtain ⟨x0, x1, x2, x3, x4⟩ := h55
                obtain ⟨j, rfl⟩ : ∃ j : Nat, i = (j : Int) := ⟨i.toNat, by omega⟩
                rw [Int.toNat_natCast] at x0 x1 x2 x3 x4 hin
                have hjc : (j : Int) < (cn : Int) := by omega
                obtain ⟨⟨v0, v1, v2, v3, v4⟩, -⟩ := Hv2.out.later hk8
                obtain ⟨⟨y0, y1, y2, y3, y4⟩, f0, f1, f2, f3, f4⟩ := HW8.out
                obtain rfl : q2 = true := by rw [← Hq2.out, hq]; rfl
                clear hx hz hkc hlc
                go_wp2
                go_meet
                case rel => exact ⟨Lib.hid (VFive.set5 HW8.out), Lib.hid (VFive.keep Hg8.out (set5_other _ _ _ _ _ _ _ _ (by omega))), vbelow_set5 hk8 (by omega)⟩
            case rest =>
              obtain ⟨HW9, Hg9, hk9⟩ := hcut
              rename World => W9
              have hb15 := bel_next hb4 hk9
              clear HW8 Hg8 hk8 hb14
              obtain ⟨⟨y0, y1, y2, y3, y4⟩, -⟩ := HW9.out
              obtain ⟨⟨g0, g1, g2, g3, g4⟩, -⟩ := Hg9.out
              go_wp2_with fail
              refine (HT2.out _ hb15).mono ?_
              rintro e W10 ⟨rfl, hb16⟩
              have hk10 := bel_next hk9 hb16
              have hb17 := bel_next hb4 hk10
              have HW10 := Lib.hid (HW9.out.later hb16)
              have Hg10 := Lib.hid (Hg9.out.later hb16)
              clear y0 y1 y2 y3 y4 g0 g1 g2 g3 g4 HW9 Hg9 hb15 hb16 hk9
              go_upto_if 88 with fail
              go_cut [10] (fun s10 wx => s10 = .bool r3.isSome ∧ Hid (VFive wx W3.heap.size (.int .i64 k3) (.int .i64 n3) (.string s3) (.slice cA3 cn3 cc3) (.slice kA3 kn3 kc3)) ∧ Hid (VFive wx W5.heap.size (.int .i64 k2) (.int .i64 n2) (.string s2) (.slice cA2 cn2 cc2) (.slice kA2 kn2 kc2)) ∧ Below W2.heap.size W2 wx)
              case first =>
                cases ok
                · obtain rfl := HN1.out (by first | rfl | trivial)
                  obtain rfl := HN2.out (by first | rfl | trivial)
                  have hr3 := HN3.out (by first | rfl | trivial)
                  obtain rfl : q2 = false := by rw [← Hq2.out, hr3]; rfl
                  have hz := (HX2.out hr3).trans ((HO1.out rfl).trans (HO3.out rfl).symm)
                  injection hz with e1 e2 e3 e4 e5 e6 e7 e8 e9 e10 e11
                  subst e1 e2 e3 e4 e5 e6 e7 e8 e9 e10 e11
                  go_wp2
                  go_meet
                  case rel => exact ⟨rfl, HW10, Hg10, hk10⟩
                · obtain ⟨⟨v0, v1, v2, v3, v4⟩, -⟩ := Hv2.out.later hk10
                  go_wp2_with fail
                  refine (HRP1.out (by first | rfl | trivial) _ _ W2.heap.size _ hb17 (H2.out.below hk10) hk10.size hmc2 hc2m).mono ?_
                  rintro e W11 ⟨rfl, hb18⟩
                  obtain ⟨⟨y0, y1, y2, y3, y4⟩, f0, f1, f2, f3, f4⟩ := HW10.out.later hb18
                  clear v0 v1 v2 v3 v4
                  go_wp2
                  go_meet
                  case rel => exact ⟨rfl, Lib.hid (VFive.set5 (HW10.out.later hb18)), Lib.hid (VFive.keep (Hg10.out.later hb18) (set5_other _ _ _ _ _ _ _ _ (by omega))), vbelow_set5 (bel_next hk10 hb18) (by omega)⟩
              case rest =>
                obtain ⟨rfl, HW11, Hg11, hk11⟩ := hcut
                rename World => W11
                have hb18 := bel_next hb4 hk11
                clear HW10 Hg10 hk10 hb17
                go_upto_region 24 with fail
                go_cut [12] (fun s12 wx => s12 = .bool r3.isSome ∧ Hid (VFive wx W3.heap.size (.int .i64 k3) (.int .i64 n3) (.string s3) (.slice cA3 cn3 cc3) (.slice kA3 kn3 kc3)) ∧ Hid (VFive wx W5.heap.size (.int .i64 k3) (.int .i64 n3) (.string s3) (.slice cA3 cn3 cc3) (.slice kA3 kn3 kc3)) ∧ Below W2.heap.size W2 wx)
                case first =>
                  obtain ⟨⟨v0, v1, v2, v3, v4⟩, -⟩ := Hv2.out.later hk11
                  go_wp2_with fail
                  refine (HP0.out _ _ W2.heap.size _ hb18 (H2.out.below hk11) hk11.size).mono ?_
                  rintro e W12 ⟨rfl, hb19⟩
                  obtain ⟨⟨g0, g1, g2, g3, g4⟩, f0, f1, f2, f3, f4⟩ := Hg11.out.later hb19
                  clear v0 v1 v2 v3 v4
                  go_wp2
                  go_meet
                  case rel => exact ⟨rfl, Lib.hid (VFive.keep (HW11.out.later hb19) (set5_other _ _ _ _ _ _ _ _ (by omega))), Lib.hid (VFive.set5 (Hg11.out.later hb19)), vbelow_set5 (bel_next hk11 hb19) (by omega)⟩
                case rest =>
                  obtain ⟨rfl, HW12, Hg12, hk12⟩ := hcut
                  rename World => W12
                  have hb20 := bel_next hb4 hk12
                  clear HW11 Hg11 hk11 hb18
                  obtain ⟨⟨y0, y1, y2, y3, y4⟩, -⟩ := HW12.out
                  obtain ⟨⟨g0, g1, g2, g3, g4⟩, -⟩ := Hg12.out
                  go_wp2_with fail
                  refine (HT3.out _ hb20).mono ?_
                  rintro e W13 ⟨rfl, hb21⟩
                  have hk13 := bel_next hk12 hb21
                  have hb22 := bel_next hb4 hk13
                  clear y0 y1 y2 y3 y4 g0 g1 g2 g3 g4 HW12 Hg12 hb20 hb21 hk12
                  obtain ⟨⟨v0, v1, v2, v3, v4⟩, -⟩ := Hv2.out.later hk13
                  go_wp2_with fail
                  refine (HLe0.out _ hb22).mono ?_
                  rintro e W14 ⟨rfl, hb23⟩
                  have hb24 := bel_next hb22 hb23
                  clear v0 v1 v2 v3 v4
                  obtain ⟨⟨v0, v1, v2, v3, v4⟩, -⟩ := (Hv2.out.later hk13).later hb23
                  cases ok
                  · have hl := HNl.out (by first | rfl | trivial)
                    injection hl with hl
                    simp at hl
                    obtain ⟨rfl, rfl⟩ := hl
                    go_wp2
                    go_ret
                    exact ⟨vret_b (by simp), hb24⟩
                  · go_wp2_with fail
                    refine (HRL.out (by first | rfl | trivial) _ hb24).mono ?_
                    rintro e W15 ⟨rfl, hb25⟩
                    go_wp2
                    go_ret
                    exact ⟨vret_b (by simp), bel_next hb24 hb25⟩
theorem valueTells_walk (W : World) (T : VT) (hT : Lie W W.heap.size T) (sT : Sml 1048576 T) (a1 : Option Addr) (len1 cap1 : Nat) (l1 : List ByteArray) (b1 : Shows W W.heap.size 1 a1 len1 (l1.map Value.string)) (ok1 : ∀ x ∈ l1, x.size ≤ maxLen ∧ x.size ≤ 1048576) (z1 : a1 = none → cap1 = 0) (y1 : len1 ≤ cap1) (x1 : cap1 ≤ maxLen) (i : Int) (wi : (Lit.int .i64 i).wf = true) (htab : UTab W) (hst : STab W) :
    Calls Tryd.prog 4 #[T.agg, .slice a1 len1 cap1, .int .i64 i] W fun e w' => e = .returned (.bool true) ∧ Below W.heap.size W w' :=
  vtells_any W T a1 len1 cap1 l1 i W.heap.size hT sT (Nat.le_refl _) b1 (fun x hx => (ok1 x hx).1) y1 x1 htab hst
end Go.Proofs.YtnldiemggabdkaaDoor
/-
  What the second form's bound gives: no part of a reading is greater than the whole. Rows of things that came in, each within the bound.
-/
namespace Go.Proofs.YtnldiemggabdkaaDoor
open Go.ChangeShapes Go.WideShapes Go.ChangeAt Go.RowKit Go.Deep
set_option linter.unusedVariables false

theorem blk_part {H : Type} {d : DataW H} : ∀ {l : List (DataW H)}, d ∈ l → Rows.uptoBulk d ≤ Rows.uptoBulkAll l
  | x :: r, h => by
    rw [Rows.uptoBulkAll]
    rcases List.mem_cons.1 h with rfl | h
    · omega
    · have := blk_part h; omega
theorem blk_agg {H : Type} {d : DataW H} {l : List (DataW H)} (h : d ∈ l) : Rows.uptoBulk d ≤ Rows.uptoBulk (.agg l) := by
  have := blk_part h
  rw [Rows.uptoBulk]
  omega
theorem blk_slice {H : Type} {d : DataW H} {l r : List (DataW H)} (h : d ∈ l) : Rows.uptoBulk d ≤ Rows.uptoBulk (.slice l r) := by
  have := blk_part h
  rw [Rows.uptoBulk]
  omega
theorem blk_str {H : Type} {s : ByteArray} {N : Nat} (h : Rows.uptoBulk (DataW.lit (H := H) (.string s.data.toList)) ≤ N) : s.size ≤ N := by
  rw [Rows.uptoBulk] at h
  have : s.data.toList.length = s.size := by rw [Array.length_toList]; rfl
  omega
theorem blk_all {H : Type} {l : List (DataW H)} (h : Rows.uptoSmall H l = true) {d : DataW H} (hd : d ∈ l) : Rows.uptoBulk d ≤ 1048576 := by
  have h1 := of_decide_eq_true h
  exact Nat.le_trans (blk_part hd) h1
section
variable {H : Type} {enc : TypeId × Value → H} {P : Program} {w W : World} {base : Nat} {spare : Nat → Bool} {held : Bool} {t e : TypeId} {N : Nat}
/-- A row of things that came in, one by one, each within the bound. -/
theorem open_rowsN {α : Type} (f : α → List Value) (z : α) (k : Nat) (hk : 0 < k) (hf : ∀ x, (f x).length = k) (Q : α → Prop) {fuel : Nat} {cs : List Value} {x : DataW H × List MemPlace} (ht : P.underlying t = some (.slice e)) (hC : P.cellsOf e = k)
    (hQ : ∀ n cs y, n < fuel → cs.length = k → DataW.trod enc P w base spare held n e cs = some y → Rows.uptoBulk y.1 ≤ N → ∃ x : α, cs = f x ∧ Q x)
    (h : DataW.trod enc P w base spare held fuel t cs = some x) (hN : Rows.uptoBulk x.1 ≤ N) : ∃ (A : Option Addr) (n c : Nat) (l : List α), cs = [.slice A n c] ∧ Shows w w.heap.size k A n (l.flatMap f) ∧ (∀ x ∈ l, Q x) ∧ (A = none → c = 0) ∧ n ≤ c ∧ c ≤ maxLen := by
  rcases DataW.trod_slice ht h with ⟨hcs, _⟩ | ⟨a, len, cap, elems, rest, n, hn, hcs, hx, _, hl, hm, hlen, hi, _, _⟩
  · exact ⟨none, 0, 0, [], hcs, ⟨by simp, fun h => absurd h (by decide)⟩, by simp, fun _ => rfl, Nat.le_refl _, Nat.zero_le _⟩
  · have hF : ∀ i, ∃ r : α, i < len → Q r ∧ ∀ j u, (f r)[j]? = some u → w.cell? (a.add (i * k + j)) = some u := by
      intro i
      by_cases hin : i < len
      · have h2 := hi i hin
        have hi' : i < elems.length := by rw [hlen]; exact hin
        rw [List.getElem?_eq_getElem hi'] at h2
        obtain ⟨cs', hc, htr⟩ := Option.bind_eq_some_iff.1 h2
        obtain ⟨_, hlen', hat⟩ := World.cells?_some hc
        rw [hC] at hlen' hat
        have hb : Rows.uptoBulk (elems[i]).1 ≤ N := by
          rw [hx] at hN
          exact Nat.le_trans (blk_slice (List.mem_map_of_mem (f := (·.1)) (List.getElem_mem hi'))) hN
        obtain ⟨r, rfl, hr⟩ := hQ n cs' _ (by omega) hlen' htr hb
        refine ⟨r, fun _ => ⟨hr, fun j u hu => ?_⟩⟩
        have hj : j < k := by have := (List.getElem?_eq_some_iff.1 hu).1; rw [hlen'] at this; exact this
        have := hat j hj
        rw [hu] at this
        rw [← this, ← Go.Deep.add_add]
      · exact ⟨z, fun h => absurd h hin⟩
    refine ⟨some a, len, cap, (List.range len).map fun i => Classical.choose (hF i), hcs, shows_rows f k hk hf _ fun i hi j u hu => (Classical.choose_spec (hF i) hi).2 j u hu, ?_, nofun, hl, hm⟩
    intro r hr
    obtain ⟨i, hi, rfl⟩ := List.mem_map.1 hr
    exact (Classical.choose_spec (hF i) (List.mem_range.1 hi)).1
theorem open_keysN {fuel : Nat} {cs : List Value} {x : DataW H × List MemPlace} (ht : P.underlying t = some (.slice e)) (hC : P.cellsOf e = 1) (he : P.underlying e = some .string) (h : DataW.trod enc P w base spare held fuel t cs = some x) (hN : Rows.uptoBulk x.1 ≤ N) :
    ∃ (A : Option Addr) (n c : Nat) (l : List ByteArray), cs = [.slice A n c] ∧ Shows w w.heap.size 1 A n (l.map Value.string) ∧ (∀ x ∈ l, x.size ≤ maxLen ∧ x.size ≤ N) ∧ (A = none → c = 0) ∧ n ≤ c ∧ c ≤ maxLen := by
  obtain ⟨A, n, c, l, h1, h2, h3⟩ := open_rowsN (fun s : ByteArray => [Value.string s]) ⟨#[]⟩ 1 (by decide) (fun _ => rfl) (fun s => s.size ≤ maxLen ∧ s.size ≤ N) ht hC (fun n cs y _ _ hy hb => by
    obtain ⟨s, e, hy1, hs⟩ := DataW.trod_string he hy
    rw [hy1] at hb
    exact ⟨s, e, hs, blk_str hb⟩) h hN
  have hfl : ∀ l : List ByteArray, l.flatMap (fun s => [Value.string s]) = l.map Value.string := by
    intro l
    induction l with
    | nil => rfl
    | cons x l ih => rw [List.flatMap_cons, ih]; rfl
  rw [hfl] at h2
  exact ⟨A, n, c, l, h1, h2, h3⟩
end
end Go.Proofs.YtnldiemggabdkaaDoor
/-
  Layer 4: a value that came in within the second form's bound: each string in it is short.
-/
namespace Go.Proofs.YtnldiemggabdkaaDoor
open Go.ChangeShapes Go.WideShapes Go.ChangeAt Go.RowKit Go.Deep
set_option linter.unusedVariables false

section
variable {H : Type} {enc : TypeId × Value → H} {P : Program} {w W : World} {base b0 : Nat} {spare : Nat → Bool} {held : Bool} {r : Reach} {t e : TypeId} {v : Value} {d : DataW H} {p : List MemPlace} {N : Nat} {f0 f1 f2 f3 f4 : Field} {ek : TypeId}
theorem trod_valueN (ht : P.underlying t = some (.struct #[f0, f1, f2, f3, f4])) (hone : oneCellFields P #[f0, f1, f2, f3, f4] = true) (hC : P.cellsOf t = 5)
    (k0 : P.underlying f0.type = some (.int .i64)) (k1 : P.underlying f1.type = some (.int .i64)) (k2 : P.underlying f2.type = some .string) (k3 : P.underlying f3.type = some (.slice t)) (k4 : P.underlying f4.type = some (.slice ek)) (k5 : P.underlying ek = some .string) (hk : P.cellsOf ek = 1) :
    ∀ (fuel : Nat) (cs : List Value) (x : DataW H × List MemPlace), cs.length = 5 → DataW.trod enc P w base spare held fuel t cs = some x → Rows.uptoBulk x.1 ≤ N → ∃ T : VT, cs = T.cells ∧ Lie w w.heap.size T ∧ Sml N T := by
  intro fuel
  induction fuel using Nat.strongRecOn with
  | ind fuel ih =>
    intro cs x hsz h hN
    match cs, hsz with
    | [c0, c1, c2, c3, c4], _ =>
      obtain ⟨xs, n, hn, hx, _, hlen, hg⟩ := DataW.trod_struct ht h
      obtain ⟨o0, q0⟩ := hone_of hone 0 f0 rfl
      obtain ⟨o1, q1⟩ := hone_of hone 1 f1 rfl
      obtain ⟨o2, q2⟩ := hone_of hone 2 f2 rfl
      obtain ⟨o3, q3⟩ := hone_of hone 3 f3 rfl
      obtain ⟨o4, q4⟩ := hone_of hone 4 f4 rfl
      match xs, hlen with
      | [y0, y1, y2, y3, y4], _ =>
        have hy0 : DataW.trod enc P w base spare held n f0.type [c0] = some y0 := by simpa [o0, q0] using hg 0 f0 rfl
        have hy1 : DataW.trod enc P w base spare held n f1.type [c1] = some y1 := by simpa [o1, q1] using hg 1 f1 rfl
        have hy2 : DataW.trod enc P w base spare held n f2.type [c2] = some y2 := by simpa [o2, q2] using hg 2 f2 rfl
        have hy3 : DataW.trod enc P w base spare held n f3.type [c3] = some y3 := by simpa [o3, q3] using hg 3 f3 rfl
        have hy4 : DataW.trod enc P w base spare held n f4.type [c4] = some y4 := by simpa [o4, q4] using hg 4 f4 rfl
        have hb : ∀ y ∈ [y0, y1, y2, y3, y4], Rows.uptoBulk y.1 ≤ N := fun y hy => by
          rw [hx] at hN
          exact Nat.le_trans (blk_agg (List.mem_map_of_mem (f := (·.1)) hy)) hN
        obtain ⟨z0, e0, _, w0⟩ := DataW.trod_int k0 hy0
        obtain ⟨z1, e1, _, w1⟩ := DataW.trod_int k1 hy1
        obtain ⟨s, e2, g2, hs⟩ := DataW.trod_string k2 hy2
        have hs2 : s.size ≤ N := by
          have := hb y2 (by simp)
          rw [g2] at this
          exact blk_str this
        obtain ⟨A3, n3, d3, l3, e3, hS3, hL3, a3, b3, m3⟩ := open_rowsN VT.cells (scV 0 0 ⟨#[]⟩) 5 (by decide) VT.cells_len (fun T => Lie w w.heap.size T ∧ Sml N T) k3 hC (fun n' cs' y hn' hl' hy' hb' => ih n' (by omega) cs' y hl' hy' hb') hy3 (hb y3 (by simp))
        obtain ⟨A4, n4, d4, l4, e4, hS4, hL4, a4, b4, m4⟩ := open_keysN k4 hk k5 hy4 (hb y4 (by simp))
        simp at e0 e1 e2 e3 e4
        subst e0 e1 e2 e3 e4
        exact ⟨.mk z0 z1 s A3 n3 d3 A4 n4 d4 l4 l3, rfl, .mk hS3 hS4 ⟨w0, w1, hs, b3, m3, a3, b4, m4, a4, fun x hx => (hL4 x hx).1⟩ (fun x hx => (hL3 x hx).1), .mk hs2 (fun x hx => (hL4 x hx).2) (fun x hx => (hL3 x hx).2)⟩
theorem came_valueN (ht : P.underlying t = some (.struct #[f0, f1, f2, f3, f4])) (hone : oneCellFields P #[f0, f1, f2, f3, f4] = true) (hC : P.cellsOf t = 5)
    (k0 : P.underlying f0.type = some (.int .i64)) (k1 : P.underlying f1.type = some (.int .i64)) (k2 : P.underlying f2.type = some .string) (k3 : P.underlying f3.type = some (.slice t)) (k4 : P.underlying f4.type = some (.slice ek)) (k5 : P.underlying ek = some .string) (hk : P.cellsOf ek = 1)
    (hv : Value.okWide P W r b0 t v) (h : DataW.Trod enc P w base spare held t v d p) (hN : Rows.uptoBulk d ≤ N) : ∃ T : VT, v = T.agg ∧ Lie w w.heap.size T ∧ Sml N T := by
  obtain ⟨cs, rfl, hsz⟩ := okWide_struct ht hv
  obtain ⟨fuel, hf⟩ := h
  obtain ⟨T, hT, hL⟩ := trod_valueN ht hone hC k0 k1 k2 k3 k4 k5 hk fuel cs.toList _ (by simpa using hsz.trans hC) (by simpa [Value.cells] using hf) hN
  refine ⟨T, ?_, hL⟩
  rw [← Array.toArray_toList (xs := cs), hT]
  cases T; rfl
theorem came_keysN {A : Option Addr} {n c : Nat} (hu : P.underlying t = some (.slice e)) (hC : P.cellsOf e = 1) (he : P.underlying e = some .string) (h : DataW.Trod enc P w base spare held t (.slice A n c) d p) (hN : Rows.uptoBulk d ≤ N) :
    ∃ l : List ByteArray, Shows w w.heap.size 1 A n (l.map Value.string) ∧ (∀ x ∈ l, x.size ≤ maxLen ∧ x.size ≤ N) ∧ (A = none → c = 0) ∧ n ≤ c ∧ c ≤ maxLen := by
  obtain ⟨fuel, hf⟩ := h
  obtain ⟨A', n', c', l, hcs, h2, h3, h4⟩ := open_keysN hu hC he hf hN
  simp [Value.cells] at hcs
  obtain ⟨rfl, rfl, rfl⟩ := hcs
  exact ⟨l, h2, h3, h4⟩
variable {tp : TypeId} {g0 g1 : Field}
theorem trod_pairN (hp : P.underlying tp = some (.struct #[g0, g1])) (o0 : g0.offset = 0) (o1 : g1.offset = 1) (c0 : P.cellsOf g0.type = 1) (c1 : P.cellsOf g1.type = 5) (q0 : P.underlying g0.type = some .string)
    (ht : P.underlying g1.type = some (.struct #[f0, f1, f2, f3, f4])) (hone : oneCellFields P #[f0, f1, f2, f3, f4] = true)
    (k0 : P.underlying f0.type = some (.int .i64)) (k1 : P.underlying f1.type = some (.int .i64)) (k2 : P.underlying f2.type = some .string) (k3 : P.underlying f3.type = some (.slice g1.type)) (k4 : P.underlying f4.type = some (.slice ek)) (k5 : P.underlying ek = some .string) (hk : P.cellsOf ek = 1) :
    ∀ (fuel : Nat) (cs : List Value) (x : DataW H × List MemPlace), cs.length = 6 → DataW.trod enc P w base spare held fuel tp cs = some x → Rows.uptoBulk x.1 ≤ N → ∃ p : PT, cs = pCells p ∧ (Lie w w.heap.size p.2 ∧ p.1.size ≤ maxLen) ∧ Sml N p.2 ∧ p.1.size ≤ N := by
  intro fuel cs x hsz h hN
  match cs, hsz with
  | [b0, b1, b2, b3, b4, b5], _ =>
    obtain ⟨xs, n, hn, hx, _, hlen, hg⟩ := DataW.trod_struct hp h
    match xs, hlen with
    | [y0, y1], _ =>
      have hy0 : DataW.trod enc P w base spare held n g0.type [b0] = some y0 := by simpa [o0, c0] using hg 0 g0 rfl
      have hy1 : DataW.trod enc P w base spare held n g1.type [b1, b2, b3, b4, b5] = some y1 := by simpa [o1, c1] using hg 1 g1 rfl
      have hb : ∀ y ∈ [y0, y1], Rows.uptoBulk y.1 ≤ N := fun y hy => by
        rw [hx] at hN
        exact Nat.le_trans (blk_agg (List.mem_map_of_mem (f := (·.1)) hy)) hN
      obtain ⟨s, e2, g2, hs⟩ := DataW.trod_string q0 hy0
      have hs2 : s.size ≤ N := by
        have := hb y0 (by simp)
        rw [g2] at this
        exact blk_str this
      obtain ⟨T, hT, hL, hM⟩ := trod_valueN ht hone c1 k0 k1 k2 k3 k4 k5 hk n _ _ rfl hy1 (hb y1 (by simp))
      simp at e2
      subst e2
      exact ⟨(s, T), by rw [hT]; rfl, ⟨hL, hs⟩, hM, hs2⟩
theorem came_pairsN {A : Option Addr} {n c : Nat} (hu : P.underlying e = some (.slice tp)) (hp : P.underlying tp = some (.struct #[g0, g1])) (hC : P.cellsOf tp = 6) (o0 : g0.offset = 0) (o1 : g1.offset = 1) (c0 : P.cellsOf g0.type = 1) (c1 : P.cellsOf g1.type = 5) (q0 : P.underlying g0.type = some .string)
    (ht : P.underlying g1.type = some (.struct #[f0, f1, f2, f3, f4])) (hone : oneCellFields P #[f0, f1, f2, f3, f4] = true)
    (k0 : P.underlying f0.type = some (.int .i64)) (k1 : P.underlying f1.type = some (.int .i64)) (k2 : P.underlying f2.type = some .string) (k3 : P.underlying f3.type = some (.slice g1.type)) (k4 : P.underlying f4.type = some (.slice ek)) (k5 : P.underlying ek = some .string) (hk : P.cellsOf ek = 1)
    (h : DataW.Trod enc P w base spare held e (.slice A n c) d p) (hN : Rows.uptoBulk d ≤ N) : ∃ l : List PT, Shows w w.heap.size 6 A n (l.flatMap pCells) ∧ (∀ p ∈ l, (Lie w w.heap.size p.2 ∧ p.1.size ≤ maxLen) ∧ Sml N p.2 ∧ p.1.size ≤ N) ∧ (A = none → c = 0) ∧ n ≤ c ∧ c ≤ maxLen := by
  obtain ⟨fuel, hf⟩ := h
  obtain ⟨A', n', c', l, hcs, h2, h3, h4⟩ := open_rowsN pCells (⟨#[]⟩, scV 0 0 ⟨#[]⟩) 6 (by decide) pCells_len (fun p : PT => (Lie w w.heap.size p.2 ∧ p.1.size ≤ maxLen) ∧ Sml N p.2 ∧ p.1.size ≤ N) hu hC (fun n' cs' y _ hl' hy' hb' => trod_pairN hp o0 o1 c0 c1 q0 ht hone k0 k1 k2 k3 k4 k5 hk n' cs' y hl' hy' hb') hf hN
  simp [Value.cells] at hcs
  obtain ⟨rfl, rfl, rfl⟩ := hcs
  exact ⟨l, h2, h3, h4⟩
end
end Go.Proofs.YtnldiemggabdkaaDoor
/-
  Layer 1: the table of forms out of a row's condition: an array of structs of whole numbers holds what it reads as.
-/
namespace Go.Proofs.YtnldiemggabdkaaDoor
open Go.RowKit

section
variable {H : Type} {enc : TypeId × Value → H} {P : Program} {w : World} {base : Nat} {sp : Nat → Bool} {held : Bool} {k : IntKind}
def litRow (k : IntKind) (zs : List Int) : DataW H := .agg (zs.map fun z => .lit (.int k z))
theorem cells_of_struct {fuel : Nat} {t : TypeId} {fs : Array Field} {cs : List Value} {zs : List Int} {p : List MemPlace} (ht : P.underlying t = some (.struct fs)) (hn : P.cellsOf t = fs.size)
    (hf : ∀ (i : Nat) (f : Field), fs[i]? = some f → f.offset = i ∧ P.cellsOf f.type = 1 ∧ P.underlying f.type = some (.int k))
    (h : DataW.trod enc P w base sp held fuel t cs = some (litRow k zs, p)) : cs = zs.map fun z => Value.int k z := by
  obtain ⟨xs, n, _, hx, hl, hlen, hfx⟩ := DataW.trod_struct ht h
  have hxs : xs.map (·.1) = zs.map fun z => (DataW.lit (.int k z) : DataW H) := by
    have := congrArg Prod.fst hx
    simpa [litRow] using this.symm
  have hzl : zs.length = fs.size := by
    have := congrArg List.length hxs
    simp at this
    omega
  apply List.ext_getElem?
  intro i
  by_cases hi : i < fs.size
  · obtain ⟨h1, h2, h3⟩ := hf i fs[i] (Array.getElem?_eq_getElem hi)
    have hb := hfx i fs[i] (Array.getElem?_eq_getElem hi)
    rw [h1, h2, List.getElem?_eq_getElem (by omega)] at hb
    obtain ⟨z, hc, hz, _⟩ := DataW.trod_int h3 hb
    have e1 : cs[i]? = some (.int k z) := by
      have := congrArg (·[0]?) hc
      simpa [List.getElem?_take, List.getElem?_drop] using this
    have e2 : (xs.map (·.1))[i]? = some (DataW.lit (.int k z) : DataW H) := by
      rw [List.getElem?_map, List.getElem?_eq_getElem (by omega), hz]
      rfl
    rw [hxs] at e2
    simp only [List.getElem?_map, Option.map_eq_some_iff, DataW.lit.injEq, Lit.int.injEq, true_and] at e2
    obtain ⟨z', hz', rfl⟩ := e2
    simp [e1, hz']
  · rw [List.getElem?_eq_none (by omega), List.getElem?_eq_none (by simp; omega)]
theorem cells_of_rows {fuel : Nat} {t e : TypeId} {n m : Nat} {cs : List Value} {rows : List (List Int)} {p : List MemPlace} (ht : P.underlying t = some (.array n e)) (he : P.cellsOf e = m) (hct : P.cellsOf t = n * m)
    (hs : ∀ (cs' : List Value) (fuel' : Nat) (zs : List Int) (p' : List MemPlace), DataW.trod enc P w base sp held fuel' e cs' = some (litRow k zs, p') → cs' = zs.map fun z => Value.int k z)
    (h : DataW.trod enc P w base sp held fuel t cs = some (.agg (rows.map (litRow k)), p)) :
    cs.length = n * m ∧ rows.length = n ∧ ∀ i r, rows[i]? = some r → (cs.drop (i * m)).take m = r.map fun z => Value.int k z := by
  cases fuel with
  | zero => simp [DataW.trod] at h
  | succ fuel =>
    simp only [DataW.trod, ht, he, hct] at h
    split at h
    · rename_i hl
      obtain ⟨xs, hm, hx⟩ := Option.map_eq_some_iff.1 h
      have hxs : xs.map (·.1) = rows.map (litRow k) := by
        have := congrArg Prod.fst hx
        simpa using this
      have hxl : xs.length = n := by simpa using Lib.mapM_length hm
      have hzl : rows.length = n := by
        have := congrArg List.length hxs
        simp at this
        omega
      refine ⟨hl, hzl, fun i r hr => ?_⟩
      have hi : i < n := by rw [← hzl]; exact (List.getElem?_eq_some_iff.1 hr).1
      obtain ⟨b, hb, hf⟩ := Lib.mapM_at hm i i (by simp [hi])
      have h2 : (xs.map (·.1))[i]? = some (litRow k r) := by rw [hxs, List.getElem?_map, hr]; rfl
      rw [List.getElem?_map, hb] at h2
      have h3 : b.1 = litRow k r := by simpa using h2
      obtain ⟨b1, b2⟩ := b
      subst h3
      exact hs _ _ _ _ hf
    · cases h
end
theorem four (cs : List Value) (h : cs.length = 16) : cs = (cs.drop (0 * 4)).take 4 ++ ((cs.drop (1 * 4)).take 4 ++ ((cs.drop (2 * 4)).take 4 ++ (cs.drop (3 * 4)).take 4)) := by
  have e3 : (cs.drop (3 * 4)).take 4 = cs.drop 12 := List.take_of_length_le (by simp; omega)
  have e2 : (cs.drop (2 * 4)).take 4 ++ cs.drop 12 = cs.drop 8 := by
    have := List.take_append_drop 4 (cs.drop 8)
    rwa [List.drop_drop] at this
  have e1 : (cs.drop (1 * 4)).take 4 ++ cs.drop 8 = cs.drop 4 := by
    have := List.take_append_drop 4 (cs.drop 4)
    rwa [List.drop_drop] at this
  rw [e3, e2, e1]
  simp
set_option maxRecDepth 20000 in
theorem form_rows {W : World} {fuel : Nat} {cs : List Value} {zs : List Int} {p : List MemPlace} (h : DataW.trod (fun _ => ()) Tryd.prog W 0 (fun _ => true) false fuel 111 cs = some (litRow .i64 zs, p)) : cs = zs.map fun z => Value.int .i64 z :=
  cells_of_struct Tryd.underlying111 (by kernel_rfl) (fun i f hf => by
    match i, hf with
    | 0, hf => cases hf; exact ⟨rfl, by kernel_rfl, Tryd.underlying3⟩
    | 1, hf => cases hf; exact ⟨rfl, by kernel_rfl, Tryd.underlying3⟩
    | 2, hf => cases hf; exact ⟨rfl, by kernel_rfl, Tryd.underlying3⟩
    | 3, hf => cases hf; exact ⟨rfl, by kernel_rfl, Tryd.underlying3⟩
    | i + 4, hf => simp at hf) h
set_option maxRecDepth 20000 in
theorem gForms : Tryd.prog.globalNamed "davenport/utf.forms" = some 1 := by kernel_rfl
set_option maxRecDepth 20000 in
theorem gFormsType : (Tryd.prog.globals[1]?).map (·.type) = some 121 := by kernel_rfl
set_option maxRecDepth 20000 in
/-- The condition of a row gives the table. -/
theorem utab_of {W : World} (h : Lib.VarReads Tryd.prog W "davenport/utf.forms" Rows.laid_davenport_utf_forms) : UTab W := by
  obtain ⟨g', t', cs, fuel, p, hg', ht', hvar, hd⟩ := h
  obtain rfl := Option.some.inj (gForms.symm.trans hg')
  obtain rfl := Option.some.inj (gFormsType.symm.trans ht')
  obtain ⟨hl, -, hr⟩ := cells_of_rows (k := .i64) (m := 4) (rows := [[0, 127, 1, 0], [128, 2047, 2, 192], [2048, 65535, 3, 224], [65536, 1114111, 4, 240]]) Tryd.underlying121 (by kernel_rfl) (by kernel_rfl) (fun cs' f' zs p' h' => form_rows h') hd
  have e := four cs.toList hl
  rw [hr 0 _ rfl, hr 1 _ rfl, hr 2 _ rfl, hr 3 _ rfl] at e
  intro i v hi
  have hc := World.var?_cell gForms hvar i
  rw [Nat.zero_add, hc, ← Array.getElem?_toList, e]
  exact hi
end Go.Proofs.YtnldiemggabdkaaDoor
/-
  A laid variable that is an array of structs of mixed kinds: its cells, out of what it reads as.
-/
namespace Go.Proofs.YtnldiemggabdkaaDoor
open Go.RowKit

section
variable {H : Type} {enc : TypeId × Value → H} {P : Program} {w : World} {base : Nat} {sp : Nat → Bool} {held : Bool}
theorem cells_of_rowsG {R : Type} {F : R → DataW H} {V : R → List Value} {fuel : Nat} {t e : TypeId} {n m : Nat} {cs : List Value} {rows : List R} {p : List MemPlace} (ht : P.underlying t = some (.array n e)) (he : P.cellsOf e = m) (hct : P.cellsOf t = n * m)
    (hs : ∀ (cs' : List Value) (fuel' : Nat) (r : R) (p' : List MemPlace), DataW.trod enc P w base sp held fuel' e cs' = some (F r, p') → cs' = V r)
    (h : DataW.trod enc P w base sp held fuel t cs = some (.agg (rows.map F), p)) :
    cs.length = n * m ∧ rows.length = n ∧ ∀ i r, rows[i]? = some r → (cs.drop (i * m)).take m = V r := by
  cases fuel with
  | zero => simp [DataW.trod] at h
  | succ fuel =>
    simp only [DataW.trod, ht, he, hct] at h
    split at h
    · rename_i hl
      obtain ⟨xs, hm, hx⟩ := Option.map_eq_some_iff.1 h
      have hxs : xs.map (·.1) = rows.map F := by
        have := congrArg Prod.fst hx
        simpa using this
      have hxl : xs.length = n := by simpa using Lib.mapM_length hm
      have hzl : rows.length = n := by
        have := congrArg List.length hxs
        simp at this
        omega
      refine ⟨hl, hzl, fun i r hr => ?_⟩
      have hi : i < n := by rw [← hzl]; exact (List.getElem?_eq_some_iff.1 hr).1
      obtain ⟨b, hb, hf⟩ := Lib.mapM_at hm i i (by simp [hi])
      have h2 : (xs.map (·.1))[i]? = some (F r) := by rw [hxs, List.getElem?_map, hr]; rfl
      rw [List.getElem?_map, hb] at h2
      have h3 : b.1 = F r := by simpa using h2
      obtain ⟨b1, b2⟩ := b
      subst h3
      exact hs _ _ _ _ hf
    · cases h
end
theorem chunk {cs L : List Value} {q m r : Nat} {v : Value} (h : (cs.drop (q * m)).take m = L) (hv : L[r]? = some v) : cs[q * m + r]? = some v := by
  rw [← h, List.getElem?_take] at hv
  split at hv
  · rwa [List.getElem?_drop] at hv
  · cases hv
end Go.Proofs.YtnldiemggabdkaaDoor
