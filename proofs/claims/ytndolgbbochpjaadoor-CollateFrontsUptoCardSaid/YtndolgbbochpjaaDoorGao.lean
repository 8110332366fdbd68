import Derived.Test.YtndolgbbochpjaaDoorGan
import Derived.Test.YtndolgbbochpjaaDoorGaj
import Derived.Test.YtndolgbbochpjaaDoorRows
import Derived.Test.YtndolgbbochpjaaDoorGae
import Derived.Deep.Modes
import Derived.Test.YtndolgbbochpjaaDoorGak
import Derived.Test.YtndolgbbochpjaaDoorGaa
import Derived.Lib.LaidTab
import Derived.Lib.LaidU8
import Derived.Test.YtndolgbbochpjaaDoorGab
import Derived.Test.YtndolgbbochpjaaDoorGaf
/-
  Layer 4, the reference: Same.
-/
namespace Go.Proofs.YtndolgbbochpjaaDoor
open Go.RowKit
set_option linter.unusedVariables false

theorem sameR_comm (T T' : VT) : sameR T' T = sameR T T' := by
  unfold sameR
  have : sameV T' T = sameV T T' := by
    rw [Bool.eq_iff_iff, sameV_iff, sameV_iff]
    exact ⟨fun h => h.symm, fun h => h.symm⟩
  rw [this]
  cases T.ok <;> cases T'.ok <;> rfl
theorem sameR_refl (T : VT) : sameR T T = T.ok := by
  cases h : T.ok with
  | true => exact sameR_self T h
  | false => unfold sameR; rw [h]; rfl
theorem ok_all {T : VT} (h : T.ok = true) : T.all = true := by unfold VT.ok at h; simp only [Bool.and_eq_true] at h; exact h.2.2
set_option maxRecDepth 20000 in
set_option maxHeartbeats 4000000 in
theorem rsame_any (T T' : VT) (B : Nat) (w : World) (hL : Lie w B T) (hL' : Lie w B T') (hS : Sml 1048576 T) (hS' : Sml 1048576 T') (hB : B ≤ w.heap.size) :
    Calls Tryd.prog 23 #[T.agg, T'.agg] w fun e w' => e = .returned (.bool (sameR T T')) ∧ Below w.heap.size w w' := by
  have HR := Lib.hid (fun W (h : Below w.heap.size w W) => right_any T B W (hL.later (h.mono hB)) hS (Nat.le_trans hB h.size))
  have HR' := Lib.hid (fun W (h : Below w.heap.size w W) => right_any T' B W (hL'.later (h.mono hB)) hS' (Nat.le_trans hB h.size))
  have HO := Lib.hid (fun (h1 : T.ok = true) (h2 : T'.ok = true) W (h : Below w.heap.size w W) => rone_any T T' B W (hL.later (h.mono hB)) (hL'.later (h.mono hB)) (Nat.le_trans hB h.size) (ok_all h1) (ok_all h2))
  have HF := Lib.hid (show sameR T T' = (T.ok && (T'.ok && sameV T T')) by unfold sameR; cases T.ok <;> cases T'.ok <;> rfl)
  generalize sameV T T' = sv at *
  generalize sameR T T' = sr at *
  cases ok1 : T.ok
  · rw [ok1] at HR
    have HG := Lib.hid (show sr = false by rw [HF.out, ok1]; rfl)
    clear HO HF HR' hL hL' hS hS' ok1
    obtain ⟨k, n, s, cA, cn, cc, kA, kn, kc, keys, kids⟩ := T
    obtain ⟨k', n', s', cA', cn', cc', kA', kn', kc', keys', kids'⟩ := T'
    simp only [VT.agg] at HR ⊢
    have hb1 := bel_alloc (bel_alloc (Below.refl w.heap.size w) (.cells #[.int .i64 k, .int .i64 n, .string s, .slice cA cn cc, .slice kA kn kc] 25)) (.cells #[.int .i64 k', .int .i64 n', .string s', .slice cA' cn' cc', .slice kA' kn' kc'] 25)
    go_enter Tryd.func23, Tryd.ntmps23
    go_wp2_with fail
    refine (HR.out _ hb1).mono ?_
    rintro e w1 ⟨rfl, hb2⟩
    go_wp2
    go_ret
    exact ⟨vret_b (by rw [HG.out]), bel_next hb1 hb2⟩
  · rw [ok1] at HR
    cases ok2 : T'.ok
    · rw [ok2] at HR'
      have HG := Lib.hid (show sr = false by rw [HF.out, ok1, ok2]; rfl)
      clear HO HF hL hL' hS hS' ok1 ok2
      obtain ⟨k, n, s, cA, cn, cc, kA, kn, kc, keys, kids⟩ := T
      obtain ⟨k', n', s', cA', cn', cc', kA', kn', kc', keys', kids'⟩ := T'
      simp only [VT.agg] at HR HR' ⊢
      have hb1 := bel_alloc (bel_alloc (Below.refl w.heap.size w) (.cells #[.int .i64 k, .int .i64 n, .string s, .slice cA cn cc, .slice kA kn kc] 25)) (.cells #[.int .i64 k', .int .i64 n', .string s', .slice cA' cn' cc', .slice kA' kn' kc'] 25)
      have Hu := Lib.hid (VFive.new (w.alloc (.cells #[.int .i64 k, .int .i64 n, .string s, .slice cA cn cc, .slice kA kn kc] 25)) (.int .i64 k') (.int .i64 n') (.string s') (.slice cA' cn' cc') (.slice kA' kn' kc') 25 (w.heap.size + 1) (World.size_alloc _ _))
      go_enter Tryd.func23, Tryd.ntmps23
      go_wp2_with fail
      refine (HR.out _ hb1).mono ?_
      rintro e w1 ⟨rfl, hb2⟩
      obtain ⟨⟨y0, y1, y2, y3, y4⟩, -⟩ := Hu.out.later hb2
      have hb3 := bel_next hb1 hb2
      go_wp2_with fail
      refine (HR'.out _ hb3).mono ?_
      rintro e w2 ⟨rfl, hb4⟩
      go_wp2
      go_ret
      exact ⟨vret_b (by rw [HG.out]), bel_next hb3 hb4⟩
    · rw [ok2] at HR'
      have HG := Lib.hid (show sr = sv by rw [HF.out, ok1, ok2]; rfl)
      have HO := Lib.hid (HO.out ok1 ok2)
      clear HF hL hL' hS hS' ok1 ok2
      obtain ⟨k, n, s, cA, cn, cc, kA, kn, kc, keys, kids⟩ := T
      obtain ⟨k', n', s', cA', cn', cc', kA', kn', kc', keys', kids'⟩ := T'
      simp only [VT.agg] at HR HR' HO ⊢
      have hb1 := bel_alloc (bel_alloc (Below.refl w.heap.size w) (.cells #[.int .i64 k, .int .i64 n, .string s, .slice cA cn cc, .slice kA kn kc] 25)) (.cells #[.int .i64 k', .int .i64 n', .string s', .slice cA' cn' cc', .slice kA' kn' kc'] 25)
      have Hv := Lib.hid ((VFive.new w (.int .i64 k) (.int .i64 n) (.string s) (.slice cA cn cc) (.slice kA kn kc) 25 w.heap.size rfl).alloc (.cells #[.int .i64 k', .int .i64 n', .string s', .slice cA' cn' cc', .slice kA' kn' kc'] 25))
      have Hu := Lib.hid (VFive.new (w.alloc (.cells #[.int .i64 k, .int .i64 n, .string s, .slice cA cn cc, .slice kA kn kc] 25)) (.int .i64 k') (.int .i64 n') (.string s') (.slice cA' cn' cc') (.slice kA' kn' kc') 25 (w.heap.size + 1) (World.size_alloc _ _))
      go_enter Tryd.func23, Tryd.ntmps23
      go_wp2_with fail
      refine (HR.out _ hb1).mono ?_
      rintro e w1 ⟨rfl, hb2⟩
      obtain ⟨⟨y0, y1, y2, y3, y4⟩, -⟩ := Hu.out.later hb2
      have hb3 := bel_next hb1 hb2
      go_wp2_with fail
      refine (HR'.out _ hb3).mono ?_
      rintro e w2 ⟨rfl, hb4⟩
      have hb5 := bel_next hb3 hb4
      clear y0 y1 y2 y3 y4
      obtain ⟨⟨y0, y1, y2, y3, y4⟩, -⟩ := (Hu.out.later hb2).later hb4
      obtain ⟨⟨z0, z1, z2, z3, z4⟩, -⟩ := (Hv.out.later hb2).later hb4
      go_wp2_with fail
      refine (HO.out _ hb5).mono ?_
      rintro e w3 ⟨rfl, hb6⟩
      go_wp2
      go_ret
      exact ⟨vret_b (by rw [HG.out]), bel_next hb5 hb6⟩
end Go.Proofs.YtndolgbbochpjaaDoor
/-
  Layer 4, the reference: Zero, Get, Len; law 4's told.
-/
namespace Go.Proofs.YtndolgbbochpjaaDoor
open Go.RowKit
set_option linter.unusedVariables false

/-- What a call tells, or nothing. -/
def orV (r : Option VT) : VT := r.getD (scV 0 0 ⟨#[]⟩)
theorem memR_orV (r : Option VT) : memR r = .tuple #[(orV r).agg, .bool r.isSome] := by cases r <;> rfl
theorem five_blk {W : World} {g : Nat} {a b c d e : Value} {t : TypeId} (h : W.heap[g]? = some (.cells #[a, b, c, d, e] t)) : VFive W g a b c d e :=
  ⟨⟨(cell_of_row W g 0 _ t (0, 0) h).trans rfl, (cell_of_row W g 1 _ t (0, 0) h).trans rfl, (cell_of_row W g 2 _ t (0, 0) h).trans rfl, (cell_of_row W g 3 _ t (0, 0) h).trans rfl, (cell_of_row W g 4 _ t (0, 0) h).trans rfl⟩,
    ⟨frozen_of_row W g 0 _ t h, frozen_of_row W g 1 _ t h, frozen_of_row W g 2 _ t h, frozen_of_row W g 3 _ t h, frozen_of_row W g 4 _ t h⟩⟩
set_option maxRecDepth 20000 in
theorem rzero_z (w : World) : Calls Tryd.prog 22 #[.agg #[.int .i64 0, .int .i64 0, .string ⟨#[]⟩, .slice none 0 0, .slice none 0 0]] w fun e w' => e = .returned (.bool true) ∧ Below w.heap.size w w' := by
  have hb1 := bel_alloc (Below.refl w.heap.size w) (.cells #[.int .i64 0, .int .i64 0, .string ⟨#[]⟩, .slice none 0 0, .slice none 0 0] 25)
  go_enter Tryd.func22, Tryd.ntmps22
  go_wp2
  go_ret
  exact ⟨by rfl, hb1⟩
theorem getK_pre : ∀ (ks : List ByteArray) (ts : List VT) (x : ByteArray) (j : Nat), j < ks.length → j < ts.length → (∀ q, q < j → ks.getD q ⟨#[]⟩ ≠ x) → ks.getD j ⟨#[]⟩ = x → getK ks ts x = ts[j]? :=
  fun ks ts x j h1 h2 h3 h4 => getK_some ks ts x j h1 h2 h4 h3
end Go.Proofs.YtndolgbbochpjaaDoor
/-
  CollateFronts: Front returns the front of any value by any number, or the documented error: the walk.
-/
namespace Go.Proofs.YtndolgbbochpjaaDoor
open Go.RowKit
set_option linter.unusedVariables false

/-- The front as the reference makes it. -/
def frontR (T : VT) (m : Nat) : VT :=
  match T with
  | .mk k n s cA cn cc kA kn kc keys kids => if k = 5 ∧ m < cn then .mk k n s cA m cc kA kn kc keys (kids.take m) else .mk k n s cA cn cc kA kn kc keys kids
theorem frontR_lie {w : World} {B : Nat} {T : VT} (h : Lie w B T) (m : Nat) : Lie w B (frontR T m) := by
  obtain ⟨k, n, s, cA, cn, cc, kA, kn, kc, keys, kids⟩ := T
  by_cases hf : k = 5 ∧ m < cn
  · rw [show frontR (.mk k n s cA cn cc kA kn kc keys kids) m = .mk k n s cA m cc kA kn kc keys (kids.take m) from if_pos hf]
    cases h with
    | mk a1 a2 a3 a4 =>
      obtain ⟨b1, b2, b3, h4, h5, h6, h7, h8, h9, h10⟩ := a3
      have hs := a1.first (show m ≤ cn by omega)
      rw [flat_take5] at hs
      exact .mk hs a2 ⟨b1, b2, b3, by omega, h5, h6, h7, h8, h9, h10⟩ fun x hx => a4 x (List.mem_of_mem_take hx)
  · rw [show frontR (.mk k n s cA cn cc kA kn kc keys kids) m = .mk k n s cA cn cc kA kn kc keys kids from if_neg hf]
    exact h
theorem frontR_sml {N : Nat} {T : VT} (h : Sml N T) (m : Nat) : Sml N (frontR T m) := by
  obtain ⟨k, n, s, cA, cn, cc, kA, kn, kc, keys, kids⟩ := T
  by_cases hf : k = 5 ∧ m < cn
  · rw [show frontR (.mk k n s cA cn cc kA kn kc keys kids) m = .mk k n s cA m cc kA kn kc keys (kids.take m) from if_pos hf]
    cases h with
    | mk a1 a2 a3 => exact .mk a1 a2 fun x hx => a3 x (List.mem_of_mem_take hx)
  · rw [show frontR (.mk k n s cA cn cc kA kn kc keys kids) m = .mk k n s cA cn cc kA kn kc keys kids from if_neg hf]
    exact h
theorem frontV_sml {N : Nat} {T : VT} (h : Sml N T) (m : Nat) : Sml N (frontV T m) := by
  obtain ⟨k, n, s, cA, cn, cc, kA, kn, kc, keys, kids⟩ := T
  by_cases hf : k = 5 ∧ m < cn
  · rw [show frontV (.mk k n s cA cn cc kA kn kc keys kids) m = .mk 5 0 ⟨#[]⟩ cA m m none 0 0 [] (kids.take m) from if_pos hf]
    cases h with
    | mk a1 a2 a3 => exact .mk (Nat.zero_le _) (fun x hx => by cases hx) fun x hx => a3 x (List.mem_of_mem_take hx)
  · rw [show frontV (.mk k n s cA cn cc kA kn kc keys kids) m = .mk k n s cA cn cc kA kn kc keys kids from if_neg hf]
    exact h
theorem frontR_same {w : World} {B : Nat} {T : VT} (h : Lie w B T) (hok : T.ok = true) (m : Nat) : sameR (frontV T m) (frontR T m) = true := by
  have hs := Szd.sized (ok_szd h hok)
  have he := front_e h hs m
  have hkV := front_ok h hok m
  obtain ⟨f1, f2⟩ := fit_bare hs.1
  have hk := hs.2.2.1
  obtain ⟨k, n, s, cA, cn, cc, kA, kn, kc, keys, kids⟩ := T
  simp only [VT.k, VT.n, VT.s, VT.keys] at f1 f2 hk
  by_cases hf : k = 5 ∧ m < cn
  · have eV : frontV (.mk k n s cA cn cc kA kn kc keys kids) m = .mk 5 0 ⟨#[]⟩ cA m m none 0 0 [] (kids.take m) := if_pos hf
    have eR : frontR (.mk k n s cA cn cc kA kn kc keys kids) m = .mk k n s cA m cc kA kn kc keys (kids.take m) := if_pos hf
    obtain ⟨rfl, hm⟩ := hf
    obtain rfl := f1 (by decide) (by decide)
    obtain rfl := f2 (by decide)
    obtain rfl := hk (by decide)
    rw [eV] at hkV ⊢
    rw [eR]
    have hkn : kn = 0 := by
      have h0 := hs.1
      rw [fit_mk] at h0
      simp only [Bool.and_eq_true] at h0
      have h1 := h0.2.2.2.2
      unfold memB memQ shKeys at h1
      simpa using h1
    have hokR : (VT.mk 5 0 ⟨#[]⟩ cA m cc kA kn kc [] (kids.take m)).ok = true := by
      rw [← hkV]
      unfold VT.ok
      rw [dep_mk, dep_mk, cnt_mk, cnt_mk, all_mk, all_mk, fit_mk, fit_mk, hkn]
    unfold sameR
    rw [hkV, hokR, (sameV_iff _ _).2 (by rw [e_mk, e_mk])]
    rfl
  · have eV : frontV (.mk k n s cA cn cc kA kn kc keys kids) m = .mk k n s cA cn cc kA kn kc keys kids := if_neg hf
    have eR : frontR (.mk k n s cA cn cc kA kn kc keys kids) m = .mk k n s cA cn cc kA kn kc keys kids := if_neg hf
    rw [eV, eR]
    exact sameR_self _ hok
set_option maxRecDepth 20000 in
set_option maxHeartbeats 1000000 in
theorem refFront_any (T : VT) (m : Nat) (w : World) (hc : ∀ k n s cA cn cc kA kn kc keys kids, T = .mk k n s cA cn cc kA kn kc keys kids → cn ≤ cc ∧ (0 < cn → cA ≠ none)) :
    Calls Tryd.prog 24 #[T.agg, .int .i64 (m : Int)] w fun e w' => e = .returned (frontR T m).agg ∧ Below w.heap.size w w' := by
  obtain ⟨k, n, s, cA, cn, cc, kA, kn, kc, keys, kids⟩ := T
  obtain ⟨hcc, hne⟩ := hc _ _ _ _ _ _ _ _ _ _ _ rfl
  have hb := bel_alloc (bel_alloc (Below.refl w.heap.size w) (.cells #[.int .i64 k, .int .i64 n, .string s, .slice cA cn cc, .slice kA kn kc] 25)) (.cells #[.int .i64 0, .int .i64 0, .string ⟨#[]⟩, .slice none 0 0, .slice none 0 0] 25)
  have c1 := (VFive.new w (.int .i64 k) (.int .i64 n) (.string s) (.slice cA cn cc) (.slice kA kn kc) 25 w.heap.size rfl).alloc (.cells #[.int .i64 0, .int .i64 0, .string ⟨#[]⟩, .slice none 0 0, .slice none 0 0] 25)
  have c2 := VFive.new (w.alloc (.cells #[.int .i64 k, .int .i64 n, .string s, .slice cA cn cc, .slice kA kn kc] 25)) (.int .i64 0) (.int .i64 0) (.string ⟨#[]⟩) (.slice none 0 0) (.slice none 0 0) 25 (w.heap.size + 1) (World.size_alloc _ _)
  simp only [VT.agg]
  by_cases hf : k = 5 ∧ m < cn
  · rw [show frontR (.mk k n s cA cn cc kA kn kc keys kids) m = .mk k n s cA m cc kA kn kc keys (kids.take m) from if_pos hf]
    obtain ⟨rfl, hm⟩ := hf
    obtain ⟨a, rfl⟩ : ∃ a, cA = some a := by
      cases cA with
      | none => exact absurd rfl (hne (by omega))
      | some a => exact ⟨a, rfl⟩
    have h1 : ((m : Int) < (cn : Int)) = True := by simp; omega
    have h2 : (0 : Int) ≤ (m : Int) := by omega
    have h3 : (m : Int) ≤ (cc : Int) := by omega
    have h4 : (m : Int) ≤ (cn : Int) := by omega
    go_enter Tryd.func24, Tryd.ntmps24
    go_upto_region 1 with fail
    generalize ((w.alloc (.cells #[.int .i64 5, .int .i64 n, .string s, .slice (some a) cn cc, .slice kA kn kc] 25)).alloc (.cells #[.int .i64 0, .int .i64 0, .string ⟨#[]⟩, .slice none 0 0, .slice none 0 0] 25)) = w1 at *
    obtain ⟨⟨y0, y1, y2, y3, y4⟩, f0, f1, f2, f3, f4⟩ := c1
    obtain ⟨⟨z0, z1, z2, z3, z4⟩, g0, g1, g2, g3, g4⟩ := c2
    go_wp2
    refine bodyPost_ret (v := .agg #[.int .i64 5, .int .i64 n, .string s, .slice (some a) m cc, .slice kA kn kc]) ?_ rfl ⟨rfl, vbelow_set5 (hb.setCell (Nat.le_refl _) _) (Nat.le_succ _)⟩
    simp [results, Tryd.results24, go_sem, *]
  · rw [show frontR (.mk k n s cA cn cc kA kn kc keys kids) m = .mk k n s cA cn cc kA kn kc keys kids from if_neg hf]
    go_enter Tryd.func24, Tryd.ntmps24
    go_upto_region 1 with fail
    generalize ((w.alloc (.cells #[.int .i64 k, .int .i64 n, .string s, .slice cA cn cc, .slice kA kn kc] 25)).alloc (.cells #[.int .i64 0, .int .i64 0, .string ⟨#[]⟩, .slice none 0 0, .slice none 0 0] 25)) = w1 at *
    obtain ⟨⟨y0, y1, y2, y3, y4⟩, f0, f1, f2, f3, f4⟩ := c1
    obtain ⟨⟨z0, z1, z2, z3, z4⟩, g0, g1, g2, g3, g4⟩ := c2
    by_cases hk5 : k = 5
    · subst hk5
      have h1 : ((m : Int) < (cn : Int)) = False := by simp; omega
      clear hf
      go_wp2
      refine bodyPost_ret (v := .agg #[.int .i64 5, .int .i64 n, .string s, .slice cA cn cc, .slice kA kn kc]) ?_ rfl ⟨rfl, vbelow_set5 hb (Nat.le_succ _)⟩
      simp [results, Tryd.results24, go_sem, *]
    · clear hf
      go_wp2
      refine bodyPost_ret (v := .agg #[.int .i64 k, .int .i64 n, .string s, .slice cA cn cc, .slice kA kn kc]) ?_ rfl ⟨rfl, vbelow_set5 hb (Nat.le_succ _)⟩
      simp [results, Tryd.results24, go_sem, *]
set_option maxRecDepth 20000 in
set_option maxHeartbeats 4000000 in
theorem cfronts_any (w : World) (T : VT) (m : Int) (B : Nat) (hL : Lie w B T) (hS : Sml 1048576 T) (hB : B ≤ w.heap.size) (htab : UTab w) (hst : STab w) (hr : RTab w) :
    Calls Tryd.prog 5 #[T.agg, .int .i64 m] w fun e w' => e = .returned (.bool true) ∧ Below w.heap.size w w' := by
  have HTx := Lib.hid (fun W (h : Below w.heap.size w W) => (⟨htab.below h htab.lt, hst.below h hst.lt, hr.below h hr.lt⟩ : UTab W ∧ STab W ∧ RTab W))
  have HW := Lib.hid (fun W (h : Below w.heap.size w W) => cwakes_any W (HTx.out W h).1 (HTx.out W h).2.1 (HTx.out W h).2.2)
  have HF := Lib.hid (fun W (h : Below w.heap.size w W) => frontT_any T m B W (hL.later (h.mono hB)) (Nat.le_trans hB h.size) (HTx.out W h).1 (HTx.out W h).2.1)
  have HRt := Lib.hid (fun W (h : Below w.heap.size w W) => right_any T B W (hL.later (h.mono hB)) hS (Nat.le_trans hB h.size))
  have HRf := Lib.hid (fun (j : Nat) W => refFront_any T j W (fun k n s cA cn cc kA kn kc keys kids e => by
    subst e
    cases hL with
    | mk a1 a2 a3 a4 =>
      obtain ⟨_, _, _, h4, _⟩ := a3
      exact ⟨h4, fun h0 e => by
        subst e
        obtain ⟨b, off, x, h, -⟩ := kids_at a1 h0
        cases h⟩))
  have HSm := Lib.hid (fun (j : Nat) (hok : T.ok = true) W (h : Below w.heap.size w W) => (by
    have h1 := rsame_any (frontV T j) (frontR T j) B W ((front_lie hL j).later (h.mono hB)) ((frontR_lie hL j).later (h.mono hB)) (frontV_sml hS j) (frontR_sml hS j) (Nat.le_trans hB h.size)
    rw [frontR_same hL hok j] at h1
    exact h1 : Calls Tryd.prog 23 #[(frontV T j).agg, (frontR T j).agg] W fun e w' => e = .returned (.bool true) ∧ Below W.heap.size W w'))
  clear hL hS htab hst hr
  unfold FrP FrQ at HF
  generalize T.ok = ok at *
  generalize hfr : frontV T = fV at *
  generalize hfrR : frontR T = fR at *
  clear hfr hfrR
  obtain ⟨k, n, s, cA, cn, cc, kA, kn, kc, keys, kids⟩ := T
  simp only [VT.agg] at HF HRt HRf ⊢
  have hb1 := bel_alloc (Below.refl w.heap.size w) (.cells #[.int .i64 k, .int .i64 n, .string s, .slice cA cn cc, .slice kA kn kc] 25)
  have HA := Lib.hid (VFive.new w (.int .i64 k) (.int .i64 n) (.string s) (.slice cA cn cc) (.slice kA kn kc) 25 w.heap.size rfl)
  go_enter Tryd.func5, Tryd.ntmps5
  go_upto_region 1 with fail
  generalize (w.alloc (.cells #[.int .i64 k, .int .i64 n, .string s, .slice cA cn cc, .slice kA kn kc] 25)) = w1 at *
  go_wp2_with fail
  refine (HW.out _ hb1).mono ?_
  rintro e w2 ⟨rfl, hn⟩
  have HA := Lib.hid (HA.out.later hn)
  have hb1 := bel_next hb1 hn
  clear hn HW
  obtain ⟨⟨a0, a1, a2, a3, a4⟩, -⟩ := HA.out
  go_wp2_with fail
  refine (HF.out _ hb1).mono ?_
  rintro e w3 ⟨X, E, rfl, HP, hn⟩
  clear a0 a1 a2 a3 a4 HF
  have HXe := Lib.hid (rfl : X = X)
  obtain ⟨xk, xn, xs, xcA, xcn, xcc, xkA, xkn, xkc, xkeys, xkids⟩ := X
  simp only
  have hn := bel_alloc hn (.cells #[.int .i64 xk, .int .i64 xn, .string xs, .slice xcA xcn xcc, .slice xkA xkn xkc] 25)
  have HV := Lib.hid (VFive.new w3 (.int .i64 xk) (.int .i64 xn) (.string xs) (.slice xcA xcn xcc) (.slice xkA xkn xkc) 25 w3.heap.size rfl)
  have HA := Lib.hid (HA.out.later hn)
  have hb1 := bel_next hb1 hn
  clear hn HXe
  go_upto_region 4 with fail
  generalize (w3.alloc (.cells #[.int .i64 xk, .int .i64 xn, .string xs, .slice xcA xcn xcc, .slice xkA xkn xkc] 25)) = w4 at *
  obtain ⟨⟨a0, a1, a2, a3, a4⟩, -⟩ := HA.out
  go_wp2_with fail
  refine (HRt.out _ hb1).mono ?_
  rintro e w5 ⟨rfl, hn⟩
  clear a0 a1 a2 a3 a4 HRt
  have HA := Lib.hid (HA.out.later hn)
  have HV := Lib.hid (HV.out.later hn)
  have hb1 := bel_next hb1 hn
  clear hn
  rcases HP.out with ⟨h1, hX, rfl⟩ | ⟨h1, ⟨hm, hX, rfl⟩ | ⟨hm, hX, rfl⟩⟩
  · subst h1
    unfold scV at hX
    injection hX with e1 e2 e3 e4 e5 e6 e7 e8 e9 e10 e11
    subst e1 e2 e3 e4 e5 e6 e7 e8 e9 e10 e11
    obtain ⟨⟨x0, x1, x2, x3, x4⟩, -⟩ := HV.out
    have hz := rzero_z w5
    clear HP HRf HSm
    go_wp2_with fail
    refine hz.mono ?_
    rintro e w6 ⟨rfl, hn⟩
    go_wp2
    go_ret
    exact ⟨rfl, bel_next hb1 hn⟩
  · subst h1
    unfold scV at hX
    injection hX with e1 e2 e3 e4 e5 e6 e7 e8 e9 e10 e11
    subst e1 e2 e3 e4 e5 e6 e7 e8 e9 e10 e11
    obtain ⟨⟨x0, x1, x2, x3, x4⟩, -⟩ := HV.out
    have hz := rzero_z w5
    have hm' : (m < 0) = True := by simp [hm]
    clear HP HRf HSm
    go_wp2_with fail
    refine hz.mono ?_
    rintro e w6 ⟨rfl, hn⟩
    go_wp2
    go_ret
    exact ⟨rfl, bel_next hb1 hn⟩
  · subst h1
    obtain ⟨j, rfl⟩ : ∃ j : Nat, m = (j : Int) := ⟨m.toNat, by omega⟩
    rw [Int.toNat_natCast] at hX
    have Hsm := Lib.hid (fun W h => HSm.out j rfl W h)
    have Hrf := Lib.hid (fun W => HRf.out j W)
    clear HP HRf HSm
    generalize fR j = Y at *
    rw [← hX] at Hsm
    clear hX
    obtain ⟨yk, yn, ys, ycA, ycn, ycc, ykA, ykn, ykc, ykeys, ykids⟩ := Y
    simp only [VT.agg] at Hsm Hrf
    have hm' : ((j : Int) < 0) = False := by simp
    have Hsm2 := Lib.hid (fun W (h : Below w5.heap.size w5 W) => Hsm.out W (bel_next hb1 h))
    have Hrf2 := Lib.hid (fun W (h : Below w5.heap.size w5 W) => Hrf.out W)
    have x0 : ∀ W, Below w5.heap.size w5 W → W.cell? ⟨w3.heap.size, 0, none⟩ = some (.int .i64 xk) := fun W h => (HV.out.later h).1.1
    have x1 : ∀ W, Below w5.heap.size w5 W → W.cell? ⟨w3.heap.size, 1, none⟩ = some (.int .i64 xn) := fun W h => (HV.out.later h).1.2.1
    have x2 : ∀ W, Below w5.heap.size w5 W → W.cell? ⟨w3.heap.size, 2, none⟩ = some (.string xs) := fun W h => (HV.out.later h).1.2.2.1
    have x3 : ∀ W, Below w5.heap.size w5 W → W.cell? ⟨w3.heap.size, 3, none⟩ = some (.slice xcA xcn xcc) := fun W h => (HV.out.later h).1.2.2.2.1
    have x4 : ∀ W, Below w5.heap.size w5 W → W.cell? ⟨w3.heap.size, 4, none⟩ = some (.slice xkA xkn xkc) := fun W h => (HV.out.later h).1.2.2.2.2
    have a0 : ∀ W, Below w5.heap.size w5 W → W.cell? ⟨w.heap.size, 0, none⟩ = some (.int .i64 k) := fun W h => (HA.out.later h).1.1
    have a1 : ∀ W, Below w5.heap.size w5 W → W.cell? ⟨w.heap.size, 1, none⟩ = some (.int .i64 n) := fun W h => (HA.out.later h).1.2.1
    have a2 : ∀ W, Below w5.heap.size w5 W → W.cell? ⟨w.heap.size, 2, none⟩ = some (.string s) := fun W h => (HA.out.later h).1.2.2.1
    have a3 : ∀ W, Below w5.heap.size w5 W → W.cell? ⟨w.heap.size, 3, none⟩ = some (.slice cA cn cc) := fun W h => (HA.out.later h).1.2.2.2.1
    have a4 : ∀ W, Below w5.heap.size w5 W → W.cell? ⟨w.heap.size, 4, none⟩ = some (.slice kA kn kc) := fun W h => (HA.out.later h).1.2.2.2.2
    go_upto_region 8 with fail
    refine wp_region_held_drew (S := fun W => Below w5.heap.size w5 W) (by kernel_rfl) (below_drewN (Below.refl _ _) 1) (fun hHeld => ?_)
    refine rg_in 0 rfl (by kernel_rfl) (by kernel_rfl) (by kernel_rfl) (by rfl) (v := ?_) (fun _ _ _ h => h) hHeld (fun w hSw => ?_) ?_
    rotate_left
    · (try dsimp only at hSw); go_simp <;> (with_reducible rfl)
    (try simp only [Act.put, List.setIfInBounds_toArray, List.set_cons_zero, List.set_cons_succ])
    refine rg_in 1 rfl (by kernel_rfl) (by kernel_rfl) (by kernel_rfl) (by rfl) (v := ?_) (fun _ _ _ h => h) hHeld (fun w hSw => ?_) ?_
    rotate_left
    · (try dsimp only at hSw); go_simp <;> (with_reducible rfl)
    (try simp only [Act.put, List.setIfInBounds_toArray, List.set_cons_zero, List.set_cons_succ])
    refine rg_in 2 rfl (by kernel_rfl) (by kernel_rfl) (by kernel_rfl) (by rfl) (v := ?_) (fun _ _ _ h => h) hHeld (fun w hSw => ?_) ?_
    rotate_left
    · (try dsimp only at hSw); go_simp <;> (with_reducible rfl)
    (try simp only [Act.put, List.setIfInBounds_toArray, List.set_cons_zero, List.set_cons_succ])
    refine rg_in 3 rfl (by kernel_rfl) (by kernel_rfl) (by kernel_rfl) (by rfl) (v := ?_) (fun _ _ _ h => h) hHeld (fun w hSw => ?_) ?_
    rotate_left
    · (try dsimp only at hSw); go_simp <;> (with_reducible rfl)
    (try simp only [Act.put, List.setIfInBounds_toArray, List.set_cons_zero, List.set_cons_succ])
    refine rg_in 4 rfl (by kernel_rfl) (by kernel_rfl) (by kernel_rfl) (by rfl) (v := ?_) (fun _ _ _ h => h) hHeld (fun w hSw => ?_) ?_
    rotate_left
    · (try dsimp only at hSw); go_simp <;> (with_reducible rfl)
    (try simp only [Act.put, List.setIfInBounds_toArray, List.set_cons_zero, List.set_cons_succ])
    refine rg_in 5 rfl (by kernel_rfl) (by kernel_rfl) (by kernel_rfl) (by rfl) (v := ?_) (fun _ _ _ h => h) hHeld (fun w hSw => ?_) ?_
    rotate_left
    · (try dsimp only at hSw); go_simp <;> (with_reducible rfl)
    (try simp only [Act.put, List.setIfInBounds_toArray, List.set_cons_zero, List.set_cons_succ])
    refine rg_do 6 rfl (by kernel_rfl) (by rfl) (fun K hK => ?_)
    go_simp
    (go_at_call 24; (with_reducible refine (Hrf2.out _ hHeld).mono ?_); (rintro e w106 ⟨rfl, hb6⟩))
    refine hK.out _ _ (S_call hb6 hHeld rfl) (fun hHeld => ?_)
    clear hK K
    (try simp only [Act.put, List.setIfInBounds_toArray, List.set_cons_zero, List.set_cons_succ])
    refine rg_do 7 rfl (by kernel_rfl) (by rfl) (fun K hK => ?_)
    go_simp
    (go_at_call 23; (with_reducible refine (Hsm2.out _ hHeld).mono ?_); (rintro e w107 ⟨rfl, hb7⟩))
    refine hK.out _ _ (S_call hb7 hHeld rfl) (fun hHeld => ?_)
    clear hK K
    (try simp only [Act.put, List.setIfInBounds_toArray, List.set_cons_zero, List.set_cons_succ])
    refine rg_in 8 rfl (by kernel_rfl) (by kernel_rfl) (by kernel_rfl) (by rfl) (v := ?_) (fun _ _ _ h => h) hHeld (fun w hSw => ?_) ?_
    rotate_left
    · (try dsimp only at hSw); go_simp <;> (with_reducible rfl)
    (try simp only [Act.put, List.setIfInBounds_toArray, List.set_cons_zero, List.set_cons_succ])
    refine rg_in 9 rfl (by kernel_rfl) (by kernel_rfl) (by kernel_rfl) (by rfl) (v := ?_) (fun _ _ _ h => h) hHeld (fun w hSw => ?_) ?_
    rotate_left
    · (try dsimp only at hSw); go_simp <;> (with_reducible rfl)
    (try simp only [Act.put, List.setIfInBounds_toArray, List.set_cons_zero, List.set_cons_succ])
    refine wpAnyH_done (by kernel_rfl) ?_ _
    go_wp2
    go_ret
    exact ⟨rfl, bel_next hb1 hHeld⟩
theorem collateFronts_walk (W : World) (T : VT) (hT : Lie W W.heap.size T) (sT : Sml 1048576 T) (a1 : Int) (w1 : (Lit.int .i64 a1).wf = true) (htab : UTab W ∧ STab W ∧ RTab W) :
    Calls Tryd.prog 5 #[T.agg, .int .i64 a1] W fun e w' => e = .returned (.bool true) ∧ Below W.heap.size W w' :=
  cfronts_any W T a1 W.heap.size hT sT (Nat.le_refl _) htab.1 htab.2.1 htab.2.2
end Go.Proofs.YtndolgbbochpjaaDoor
/-
  What the second form's bound gives: no part of a reading is greater than the whole. Rows of things that came in, each within the bound.
-/
namespace Go.Proofs.YtndolgbbochpjaaDoor
open Go.ChangeShapes Go.WideShapes Go.ChangeAt Go.RowKit Go.Deep
set_option linter.unusedVariables false

theorem blk_part {H : Type} {d : DataW H} : ∀ {l : List (DataW H)}, d ∈ l → Rows.uptoBulk d ≤ Rows.uptoBulkAll l
  | x :: r, h => by
    rw [Rows.uptoBulkAll]
    rcases List.mem_cons.1 h with rfl | h
    · omega
    · have := blk_part h; omega
theorem blk_agg {H : Type} {d : DataW H} {l : List (DataW H)} (h : d ∈ l) : Rows.uptoBulk d ≤ Rows.uptoBulk (.agg l) := by
  have := blk_part h
  rw [Rows.uptoBulk]
  omega
theorem blk_slice {H : Type} {d : DataW H} {l r : List (DataW H)} (h : d ∈ l) : Rows.uptoBulk d ≤ Rows.uptoBulk (.slice l r) := by
  have := blk_part h
  rw [Rows.uptoBulk]
  omega
theorem blk_str {H : Type} {s : ByteArray} {N : Nat} (h : Rows.uptoBulk (DataW.lit (H := H) (.string s.data.toList)) ≤ N) : s.size ≤ N := by
  rw [Rows.uptoBulk] at h
  have : s.data.toList.length = s.size := by rw [Array.length_toList]; rfl
  omega
theorem blk_all {H : Type} {l : List (DataW H)} (h : Rows.uptoSmall H l = true) {d : DataW H} (hd : d ∈ l) : Rows.uptoBulk d ≤ 1048576 := by
  have h1 := of_decide_eq_true h
  exact Nat.le_trans (blk_part hd) h1
section
variable {H : Type} {enc : TypeId × Value → H} {P : Program} {w W : World} {base : Nat} {spare : Nat → Bool} {held : Bool} {t e : TypeId} {N : Nat}
/-- A row of things that came in, one by one, each within the bound. -/
theorem open_rowsN {α : Type} (f : α → List Value) (z : α) (k : Nat) (hk : 0 < k) (hf : ∀ x, (f x).length = k) (Q : α → Prop) {fuel : Nat} {cs : List Value} {x : DataW H × List MemPlace} (ht : P.underlying t = some (.slice e)) (hC : P.cellsOf e = k)
    (hQ : ∀ n cs y, n < fuel → cs.length = k → DataW.trod enc P w base spare held n e cs = some y → Rows.uptoBulk y.1 ≤ N → ∃ x : α, cs = f x ∧ Q x)
    (h : DataW.trod enc P w base spare held fuel t cs = some x) (hN : Rows.uptoBulk x.1 ≤ N) : ∃ (A : Option Addr) (n c : Nat) (l : List α), cs = [.slice A n c] ∧ Shows w w.heap.size k A n (l.flatMap f) ∧ (∀ x ∈ l, Q x) ∧ (A = none → c = 0) ∧ n ≤ c ∧ c ≤ maxLen := by
  rcases DataW.trod_slice ht h with ⟨hcs, _⟩ | ⟨a, len, cap, elems, rest, n, hn, hcs, hx, _, hl, hm, hlen, hi, _, _⟩
  · exact ⟨none, 0, 0, [], hcs, ⟨by simp, fun h => absurd h (by decide)⟩, by simp, fun _ => rfl, Nat.le_refl _, Nat.zero_le _⟩
  · have hF : ∀ i, ∃ r : α, i < len → Q r ∧ ∀ j u, (f r)[j]? = some u → w.cell? (a.add (i * k + j)) = some u := by
      intro i
      by_cases hin : i < len
      · have h2 := hi i hin
        have hi' : i < elems.length := by rw [hlen]; exact hin
        rw [List.getElem?_eq_getElem hi'] at h2
        obtain ⟨cs', hc, htr⟩ := Option.bind_eq_some_iff.1 h2
        obtain ⟨_, hlen', hat⟩ := World.cells?_some hc
        rw [hC] at hlen' hat
        have hb : Rows.uptoBulk (elems[i]).1 ≤ N := by
          rw [hx] at hN
          exact Nat.le_trans (blk_slice (List.mem_map_of_mem (f := (·.1)) (List.getElem_mem hi'))) hN
        obtain ⟨r, rfl, hr⟩ := hQ n cs' _ (by omega) hlen' htr hb
        refine ⟨r, fun _ => ⟨hr, fun j u hu => ?_⟩⟩
        have hj : j < k := by have := (List.getElem?_eq_some_iff.1 hu).1; rw [hlen'] at this; exact this
        have := hat j hj
        rw [hu] at this
        rw [← this, ← Go.Deep.add_add]
      · exact ⟨z, fun h => absurd h hin⟩
    refine ⟨some a, len, cap, (List.range len).map fun i => Classical.choose (hF i), hcs, shows_rows f k hk hf _ fun i hi j u hu => (Classical.choose_spec (hF i) hi).2 j u hu, ?_, nofun, hl, hm⟩
    intro r hr
    obtain ⟨i, hi, rfl⟩ := List.mem_map.1 hr
    exact (Classical.choose_spec (hF i) (List.mem_range.1 hi)).1
theorem open_keysN {fuel : Nat} {cs : List Value} {x : DataW H × List MemPlace} (ht : P.underlying t = some (.slice e)) (hC : P.cellsOf e = 1) (he : P.underlying e = some .string) (h : DataW.trod enc P w base spare held fuel t cs = some x) (hN : Rows.uptoBulk x.1 ≤ N) :
    ∃ (A : Option Addr) (n c : Nat) (l : List ByteArray), cs = [.slice A n c] ∧ Shows w w.heap.size 1 A n (l.map Value.string) ∧ (∀ x ∈ l, x.size ≤ maxLen ∧ x.size ≤ N) ∧ (A = none → c = 0) ∧ n ≤ c ∧ c ≤ maxLen := by
  obtain ⟨A, n, c, l, h1, h2, h3⟩ := open_rowsN (fun s : ByteArray => [Value.string s]) ⟨#[]⟩ 1 (by decide) (fun _ => rfl) (fun s => s.size ≤ maxLen ∧ s.size ≤ N) ht hC (fun n cs y _ _ hy hb => by
    obtain ⟨s, e, hy1, hs⟩ := DataW.trod_string he hy
    rw [hy1] at hb
    exact ⟨s, e, hs, blk_str hb⟩) h hN
  have hfl : ∀ l : List ByteArray, l.flatMap (fun s => [Value.string s]) = l.map Value.string := by
    intro l
    induction l with
    | nil => rfl
    | cons x l ih => rw [List.flatMap_cons, ih]; rfl
  rw [hfl] at h2
  exact ⟨A, n, c, l, h1, h2, h3⟩
end
end Go.Proofs.YtndolgbbochpjaaDoor
/-
  Layer 4: a value that came in within the second form's bound: each string in it is short.
-/
namespace Go.Proofs.YtndolgbbochpjaaDoor
open Go.ChangeShapes Go.WideShapes Go.ChangeAt Go.RowKit Go.Deep
set_option linter.unusedVariables false

section
variable {H : Type} {enc : TypeId × Value → H} {P : Program} {w W : World} {base b0 : Nat} {spare : Nat → Bool} {held : Bool} {r : Reach} {t e : TypeId} {v : Value} {d : DataW H} {p : List MemPlace} {N : Nat} {f0 f1 f2 f3 f4 : Field} {ek : TypeId}
theorem trod_valueN (ht : P.underlying t = some (.struct #[f0, f1, f2, f3, f4])) (hone : oneCellFields P #[f0, f1, f2, f3, f4] = true) (hC : P.cellsOf t = 5)
    (k0 : P.underlying f0.type = some (.int .i64)) (k1 : P.underlying f1.type = some (.int .i64)) (k2 : P.underlying f2.type = some .string) (k3 : P.underlying f3.type = some (.slice t)) (k4 : P.underlying f4.type = some (.slice ek)) (k5 : P.underlying ek = some .string) (hk : P.cellsOf ek = 1) :
    ∀ (fuel : Nat) (cs : List Value) (x : DataW H × List MemPlace), cs.length = 5 → DataW.trod enc P w base spare held fuel t cs = some x → Rows.uptoBulk x.1 ≤ N → ∃ T : VT, cs = T.cells ∧ Lie w w.heap.size T ∧ Sml N T := by
  intro fuel
  induction fuel using Nat.strongRecOn with
  | ind fuel ih =>
    intro cs x hsz h hN
    match cs, hsz with
    | [c0, c1, c2, c3, c4], _ =>
      obtain ⟨xs, n, hn, hx, _, hlen, hg⟩ := DataW.trod_struct ht h
      obtain ⟨o0, q0⟩ := hone_of hone 0 f0 rfl
      obtain ⟨o1, q1⟩ := hone_of hone 1 f1 rfl
      obtain ⟨o2, q2⟩ := hone_of hone 2 f2 rfl
      obtain ⟨o3, q3⟩ := hone_of hone 3 f3 rfl
      obtain ⟨o4, q4⟩ := hone_of hone 4 f4 rfl
      match xs, hlen with
      | [y0, y1, y2, y3, y4], _ =>
        have hy0 : DataW.trod enc P w base spare held n f0.type [c0] = some y0 := by simpa [o0, q0] using hg 0 f0 rfl
        have hy1 : DataW.trod enc P w base spare held n f1.type [c1] = some y1 := by simpa [o1, q1] using hg 1 f1 rfl
        have hy2 : DataW.trod enc P w base spare held n f2.type [c2] = some y2 := by simpa [o2, q2] using hg 2 f2 rfl
        have hy3 : DataW.trod enc P w base spare held n f3.type [c3] = some y3 := by simpa [o3, q3] using hg 3 f3 rfl
        have hy4 : DataW.trod enc P w base spare held n f4.type [c4] = some y4 := by simpa [o4, q4] using hg 4 f4 rfl
        have hb : ∀ y ∈ [y0, y1, y2, y3, y4], Rows.uptoBulk y.1 ≤ N := fun y hy => by
          rw [hx] at hN
          exact Nat.le_trans (blk_agg (List.mem_map_of_mem (f := (·.1)) hy)) hN
        obtain ⟨z0, e0, _, w0⟩ := DataW.trod_int k0 hy0
        obtain ⟨z1, e1, _, w1⟩ := DataW.trod_int k1 hy1
        obtain ⟨s, e2, g2, hs⟩ := DataW.trod_string k2 hy2
        have hs2 : s.size ≤ N := by
          have := hb y2 (by simp)
          rw [g2] at this
          exact blk_str this
        obtain ⟨A3, n3, d3, l3, e3, hS3, hL3, a3, b3, m3⟩ := open_rowsN VT.cells (scV 0 0 ⟨#[]⟩) 5 (by decide) VT.cells_len (fun T => Lie w w.heap.size T ∧ Sml N T) k3 hC (fun n' cs' y hn' hl' hy' hb' => ih n' (by omega) cs' y hl' hy' hb') hy3 (hb y3 (by simp))
        obtain ⟨A4, n4, d4, l4, e4, hS4, hL4, a4, b4, m4⟩ := open_keysN k4 hk k5 hy4 (hb y4 (by simp))
        simp at e0 e1 e2 e3 e4
        subst e0 e1 e2 e3 e4
        exact ⟨.mk z0 z1 s A3 n3 d3 A4 n4 d4 l4 l3, rfl, .mk hS3 hS4 ⟨w0, w1, hs, b3, m3, a3, b4, m4, a4, fun x hx => (hL4 x hx).1⟩ (fun x hx => (hL3 x hx).1), .mk hs2 (fun x hx => (hL4 x hx).2) (fun x hx => (hL3 x hx).2)⟩
theorem came_valueN (ht : P.underlying t = some (.struct #[f0, f1, f2, f3, f4])) (hone : oneCellFields P #[f0, f1, f2, f3, f4] = true) (hC : P.cellsOf t = 5)
    (k0 : P.underlying f0.type = some (.int .i64)) (k1 : P.underlying f1.type = some (.int .i64)) (k2 : P.underlying f2.type = some .string) (k3 : P.underlying f3.type = some (.slice t)) (k4 : P.underlying f4.type = some (.slice ek)) (k5 : P.underlying ek = some .string) (hk : P.cellsOf ek = 1)
    (hv : Value.okWide P W r b0 t v) (h : DataW.Trod enc P w base spare held t v d p) (hN : Rows.uptoBulk d ≤ N) : ∃ T : VT, v = T.agg ∧ Lie w w.heap.size T ∧ Sml N T := by
  obtain ⟨cs, rfl, hsz⟩ := okWide_struct ht hv
  obtain ⟨fuel, hf⟩ := h
  obtain ⟨T, hT, hL⟩ := trod_valueN ht hone hC k0 k1 k2 k3 k4 k5 hk fuel cs.toList _ (by simpa using hsz.trans hC) (by simpa [Value.cells] using hf) hN
  refine ⟨T, ?_, hL⟩
  rw [← Array.toArray_toList (xs := cs), hT]
  cases T; rfl
theorem came_keysN {A : Option Addr} {n c : Nat} (hu : P.underlying t = some (.slice e)) (hC : P.cellsOf e = 1) (he : P.underlying e = some .string) (h : DataW.Trod enc P w base spare held t (.slice A n c) d p) (hN : Rows.uptoBulk d ≤ N) :
    ∃ l : List ByteArray, Shows w w.heap.size 1 A n (l.map Value.string) ∧ (∀ x ∈ l, x.size ≤ maxLen ∧ x.size ≤ N) ∧ (A = none → c = 0) ∧ n ≤ c ∧ c ≤ maxLen := by
  obtain ⟨fuel, hf⟩ := h
  obtain ⟨A', n', c', l, hcs, h2, h3, h4⟩ := open_keysN hu hC he hf hN
  simp [Value.cells] at hcs
  obtain ⟨rfl, rfl, rfl⟩ := hcs
  exact ⟨l, h2, h3, h4⟩
variable {tp : TypeId} {g0 g1 : Field}
theorem trod_pairN (hp : P.underlying tp = some (.struct #[g0, g1])) (o0 : g0.offset = 0) (o1 : g1.offset = 1) (c0 : P.cellsOf g0.type = 1) (c1 : P.cellsOf g1.type = 5) (q0 : P.underlying g0.type = some .string)
    (ht : P.underlying g1.type = some (.struct #[f0, f1, f2, f3, f4])) (hone : oneCellFields P #[f0, f1, f2, f3, f4] = true)
    (k0 : P.underlying f0.type = some (.int .i64)) (k1 : P.underlying f1.type = some (.int .i64)) (k2 : P.underlying f2.type = some .string) (k3 : P.underlying f3.type = some (.slice g1.type)) (k4 : P.underlying f4.type = some (.slice ek)) (k5 : P.underlying ek = some .string) (hk : P.cellsOf ek = 1) :
    ∀ (fuel : Nat) (cs : List Value) (x : DataW H × List MemPlace), cs.length = 6 → DataW.trod enc P w base spare held fuel tp cs = some x → Rows.uptoBulk x.1 ≤ N → ∃ p : PT, cs = pCells p ∧ (Lie w w.heap.size p.2 ∧ p.1.size ≤ maxLen) ∧ Sml N p.2 ∧ p.1.size ≤ N := by
  intro fuel cs x hsz h hN
  match cs, hsz with
  | [b0, b1, b2, b3, b4, b5], _ =>
    obtain ⟨xs, n, hn, hx, _, hlen, hg⟩ := DataW.trod_struct hp h
    match xs, hlen with
    | [y0, y1], _ =>
      have hy0 : DataW.trod enc P w base spare held n g0.type [b0] = some y0 := by simpa [o0, c0] using hg 0 g0 rfl
      have hy1 : DataW.trod enc P w base spare held n g1.type [b1, b2, b3, b4, b5] = some y1 := by simpa [o1, c1] using hg 1 g1 rfl
      have hb : ∀ y ∈ [y0, y1], Rows.uptoBulk y.1 ≤ N := fun y hy => by
        rw [hx] at hN
        exact Nat.le_trans (blk_agg (List.mem_map_of_mem (f := (·.1)) hy)) hN
      obtain ⟨s, e2, g2, hs⟩ := DataW.trod_string q0 hy0
      have hs2 : s.size ≤ N := by
        have := hb y0 (by simp)
        rw [g2] at this
        exact blk_str this
      obtain ⟨T, hT, hL, hM⟩ := trod_valueN ht hone c1 k0 k1 k2 k3 k4 k5 hk n _ _ rfl hy1 (hb y1 (by simp))
      simp at e2
      subst e2
      exact ⟨(s, T), by rw [hT]; rfl, ⟨hL, hs⟩, hM, hs2⟩
theorem came_pairsN {A : Option Addr} {n c : Nat} (hu : P.underlying e = some (.slice tp)) (hp : P.underlying tp = some (.struct #[g0, g1])) (hC : P.cellsOf tp = 6) (o0 : g0.offset = 0) (o1 : g1.offset = 1) (c0 : P.cellsOf g0.type = 1) (c1 : P.cellsOf g1.type = 5) (q0 : P.underlying g0.type = some .string)
    (ht : P.underlying g1.type = some (.struct #[f0, f1, f2, f3, f4])) (hone : oneCellFields P #[f0, f1, f2, f3, f4] = true)
    (k0 : P.underlying f0.type = some (.int .i64)) (k1 : P.underlying f1.type = some (.int .i64)) (k2 : P.underlying f2.type = some .string) (k3 : P.underlying f3.type = some (.slice g1.type)) (k4 : P.underlying f4.type = some (.slice ek)) (k5 : P.underlying ek = some .string) (hk : P.cellsOf ek = 1)
    (h : DataW.Trod enc P w base spare held e (.slice A n c) d p) (hN : Rows.uptoBulk d ≤ N) : ∃ l : List PT, Shows w w.heap.size 6 A n (l.flatMap pCells) ∧ (∀ p ∈ l, (Lie w w.heap.size p.2 ∧ p.1.size ≤ maxLen) ∧ Sml N p.2 ∧ p.1.size ≤ N) ∧ (A = none → c = 0) ∧ n ≤ c ∧ c ≤ maxLen := by
  obtain ⟨fuel, hf⟩ := h
  obtain ⟨A', n', c', l, hcs, h2, h3, h4⟩ := open_rowsN pCells (⟨#[]⟩, scV 0 0 ⟨#[]⟩) 6 (by decide) pCells_len (fun p : PT => (Lie w w.heap.size p.2 ∧ p.1.size ≤ maxLen) ∧ Sml N p.2 ∧ p.1.size ≤ N) hu hC (fun n' cs' y _ hl' hy' hb' => trod_pairN hp o0 o1 c0 c1 q0 ht hone k0 k1 k2 k3 k4 k5 hk n' cs' y hl' hy' hb') hf hN
  simp [Value.cells] at hcs
  obtain ⟨rfl, rfl, rfl⟩ := hcs
  exact ⟨l, h2, h3, h4⟩
end
end Go.Proofs.YtndolgbbochpjaaDoor
/-
  Layer 1: the table of forms out of a row's condition: an array of structs of whole numbers holds what it reads as.
-/
namespace Go.Proofs.YtndolgbbochpjaaDoor
open Go.RowKit

section
variable {H : Type} {enc : TypeId × Value → H} {P : Program} {w : World} {base : Nat} {sp : Nat → Bool} {held : Bool} {k : IntKind}
def litRow (k : IntKind) (zs : List Int) : DataW H := .agg (zs.map fun z => .lit (.int k z))
theorem cells_of_struct {fuel : Nat} {t : TypeId} {fs : Array Field} {cs : List Value} {zs : List Int} {p : List MemPlace} (ht : P.underlying t = some (.struct fs)) (hn : P.cellsOf t = fs.size)
    (hf : ∀ (i : Nat) (f : Field), fs[i]? = some f → f.offset = i ∧ P.cellsOf f.type = 1 ∧ P.underlying f.type = some (.int k))
    (h : DataW.trod enc P w base sp held fuel t cs = some (litRow k zs, p)) : cs = zs.map fun z => Value.int k z := by
  obtain ⟨xs, n, _, hx, hl, hlen, hfx⟩ := DataW.trod_struct ht h
  have hxs : xs.map (·.1) = zs.map fun z => (DataW.lit (.int k z) : DataW H) := by
    have := congrArg Prod.fst hx
    simpa [litRow] using this.symm
  have hzl : zs.length = fs.size := by
    have := congrArg List.length hxs
    simp at this
    omega
  apply List.ext_getElem?
  intro i
  by_cases hi : i < fs.size
  · obtain ⟨h1, h2, h3⟩ := hf i fs[i] (Array.getElem?_eq_getElem hi)
    have hb := hfx i fs[i] (Array.getElem?_eq_getElem hi)
    rw [h1, h2, List.getElem?_eq_getElem (by omega)] at hb
    obtain ⟨z, hc, hz, _⟩ := DataW.trod_int h3 hb
    have e1 : cs[i]? = some (.int k z) := by
      have := congrArg (·[0]?) hc
      simpa [List.getElem?_take, List.getElem?_drop] using this
    have e2 : (xs.map (·.1))[i]? = some (DataW.lit (.int k z) : DataW H) := by
      rw [List.getElem?_map, List.getElem?_eq_getElem (by omega), hz]
      rfl
    rw [hxs] at e2
    simp only [List.getElem?_map, Option.map_eq_some_iff, DataW.lit.injEq, Lit.int.injEq, true_and] at e2
    obtain ⟨z', hz', rfl⟩ := e2
    simp [e1, hz']
  · rw [List.getElem?_eq_none (by omega), List.getElem?_eq_none (by simp; omega)]
theorem cells_of_rows {fuel : Nat} {t e : TypeId} {n m : Nat} {cs : List Value} {rows : List (List Int)} {p : List MemPlace} (ht : P.underlying t = some (.array n e)) (he : P.cellsOf e = m) (hct : P.cellsOf t = n * m)
    (hs : ∀ (cs' : List Value) (fuel' : Nat) (zs : List Int) (p' : List MemPlace), DataW.trod enc P w base sp held fuel' e cs' = some (litRow k zs, p') → cs' = zs.map fun z => Value.int k z)
    (h : DataW.trod enc P w base sp held fuel t cs = some (.agg (rows.map (litRow k)), p)) :
    cs.length = n * m ∧ rows.length = n ∧ ∀ i r, rows[i]? = some r → (cs.drop (i * m)).take m = r.map fun z => Value.int k z := by
  cases fuel with
  | zero => simp [DataW.trod] at h
  | succ fuel =>
    simp only [DataW.trod, ht, he, hct] at h
    split at h
    · rename_i hl
      obtain ⟨xs, hm, hx⟩ := Option.map_eq_some_iff.1 h
      have hxs : xs.map (·.1) = rows.map (litRow k) := by
        have := congrArg Prod.fst hx
        simpa using this
      have hxl : xs.length = n := by simpa using Lib.mapM_length hm
      have hzl : rows.length = n := by
        have := congrArg List.length hxs
        simp at this
        omega
      refine ⟨hl, hzl, fun i r hr => ?_⟩
      have hi : i < n := by rw [← hzl]; exact (List.getElem?_eq_some_iff.1 hr).1
      obtain ⟨b, hb, hf⟩ := Lib.mapM_at hm i i (by simp [hi])
      have h2 : (xs.map (·.1))[i]? = some (litRow k r) := by rw [hxs, List.getElem?_map, hr]; rfl
      rw [List.getElem?_map, hb] at h2
      have h3 : b.1 = litRow k r := by simpa using h2
      obtain ⟨b1, b2⟩ := b
      subst h3
      exact hs _ _ _ _ hf
    · cases h
end
theorem four (cs : List Value) (h : cs.length = 16) : cs = (cs.drop (0 * 4)).take 4 ++ ((cs.drop (1 * 4)).take 4 ++ ((cs.drop (2 * 4)).take 4 ++ (cs.drop (3 * 4)).take 4)) := by
  have e3 : (cs.drop (3 * 4)).take 4 = cs.drop 12 := List.take_of_length_le (by simp; omega)
  have e2 : (cs.drop (2 * 4)).take 4 ++ cs.drop 12 = cs.drop 8 := by
    have := List.take_append_drop 4 (cs.drop 8)
    rwa [List.drop_drop] at this
  have e1 : (cs.drop (1 * 4)).take 4 ++ cs.drop 8 = cs.drop 4 := by
    have := List.take_append_drop 4 (cs.drop 4)
    rwa [List.drop_drop] at this
  rw [e3, e2, e1]
  simp
set_option maxRecDepth 20000 in
theorem form_rows {W : World} {fuel : Nat} {cs : List Value} {zs : List Int} {p : List MemPlace} (h : DataW.trod (fun _ => ()) Tryd.prog W 0 (fun _ => true) false fuel 113 cs = some (litRow .i64 zs, p)) : cs = zs.map fun z => Value.int .i64 z :=
  cells_of_struct Tryd.underlying113 (by kernel_rfl) (fun i f hf => by
    match i, hf with
    | 0, hf => cases hf; exact ⟨rfl, by kernel_rfl, Tryd.underlying3⟩
    | 1, hf => cases hf; exact ⟨rfl, by kernel_rfl, Tryd.underlying3⟩
    | 2, hf => cases hf; exact ⟨rfl, by kernel_rfl, Tryd.underlying3⟩
    | 3, hf => cases hf; exact ⟨rfl, by kernel_rfl, Tryd.underlying3⟩
    | i + 4, hf => simp at hf) h
set_option maxRecDepth 20000 in
theorem gForms : Tryd.prog.globalNamed "davenport/utf.forms" = some 2 := by kernel_rfl
set_option maxRecDepth 20000 in
theorem gFormsType : (Tryd.prog.globals[2]?).map (·.type) = some 116 := by kernel_rfl
set_option maxRecDepth 20000 in
/-- The condition of a row gives the table. -/
theorem utab_of {W : World} (h : Lib.VarReads Tryd.prog W "davenport/utf.forms" Rows.laid_davenport_utf_forms) : UTab W := by
  obtain ⟨g', t', cs, fuel, p, hg', ht', hvar, hd⟩ := h
  obtain rfl := Option.some.inj (gForms.symm.trans hg')
  obtain rfl := Option.some.inj (gFormsType.symm.trans ht')
  obtain ⟨hl, -, hr⟩ := cells_of_rows (k := .i64) (m := 4) (rows := [[0, 127, 1, 0], [128, 2047, 2, 192], [2048, 65535, 3, 224], [65536, 1114111, 4, 240]]) Tryd.underlying116 (by kernel_rfl) (by kernel_rfl) (fun cs' f' zs p' h' => form_rows h') hd
  have e := four cs.toList hl
  rw [hr 0 _ rfl, hr 1 _ rfl, hr 2 _ rfl, hr 3 _ rfl] at e
  intro i v hi
  have hc := World.var?_cell gForms hvar i
  rw [Nat.zero_add, hc, ← Array.getElem?_toList, e]
  exact hi
end Go.Proofs.YtndolgbbochpjaaDoor
/-
  A laid variable that is an array of structs of mixed kinds: its cells, out of what it reads as.
-/
namespace Go.Proofs.YtndolgbbochpjaaDoor
open Go.RowKit

section
variable {H : Type} {enc : TypeId × Value → H} {P : Program} {w : World} {base : Nat} {sp : Nat → Bool} {held : Bool}
theorem cells_of_rowsG {R : Type} {F : R → DataW H} {V : R → List Value} {fuel : Nat} {t e : TypeId} {n m : Nat} {cs : List Value} {rows : List R} {p : List MemPlace} (ht : P.underlying t = some (.array n e)) (he : P.cellsOf e = m) (hct : P.cellsOf t = n * m)
    (hs : ∀ (cs' : List Value) (fuel' : Nat) (r : R) (p' : List MemPlace), DataW.trod enc P w base sp held fuel' e cs' = some (F r, p') → cs' = V r)
    (h : DataW.trod enc P w base sp held fuel t cs = some (.agg (rows.map F), p)) :
    cs.length = n * m ∧ rows.length = n ∧ ∀ i r, rows[i]? = some r → (cs.drop (i * m)).take m = V r := by
  cases fuel with
  | zero => simp [DataW.trod] at h
  | succ fuel =>
    simp only [DataW.trod, ht, he, hct] at h
    split at h
    · rename_i hl
      obtain ⟨xs, hm, hx⟩ := Option.map_eq_some_iff.1 h
      have hxs : xs.map (·.1) = rows.map F := by
        have := congrArg Prod.fst hx
        simpa using this
      have hxl : xs.length = n := by simpa using Lib.mapM_length hm
      have hzl : rows.length = n := by
        have := congrArg List.length hxs
        simp at this
        omega
      refine ⟨hl, hzl, fun i r hr => ?_⟩
      have hi : i < n := by rw [← hzl]; exact (List.getElem?_eq_some_iff.1 hr).1
      obtain ⟨b, hb, hf⟩ := Lib.mapM_at hm i i (by simp [hi])
      have h2 : (xs.map (·.1))[i]? = some (F r) := by rw [hxs, List.getElem?_map, hr]; rfl
      rw [List.getElem?_map, hb] at h2
      have h3 : b.1 = F r := by simpa using h2
      obtain ⟨b1, b2⟩ := b
      subst h3
      exact hs _ _ _ _ hf
    · cases h
end
theorem chunk {cs L : List Value} {q m r : Nat} {v : Value} (h : (cs.drop (q * m)).take m = L) (hv : L[r]? = some v) : cs[q * m + r]? = some v := by
  rw [← h, List.getElem?_take] at hv
  split at hv
  · rwa [List.getElem?_drop] at hv
  · cases hv
end Go.Proofs.YtndolgbbochpjaaDoor
/-
  Layer 4: the table of shapes out of a row's condition.
-/
namespace Go.Proofs.YtndolgbbochpjaaDoor
open Go.RowKit
set_option linter.unusedVariables false

theorem six_of {α : Type} (l : List α) (h : l.length = 6) : ∃ a b c d e f, l = [a, b, c, d, e, f] := by
  match l, h with
  | [a, b, c, d, e, f], _ => exact ⟨a, b, c, d, e, f, rfl⟩
/-- A row of the table, as it reads and as it lies. -/
def shpF (r : Bool × Bool × Int × Bool × Bool × Bool) : DataW Unit := .agg [.lit (.bool r.1), .lit (.bool r.2.1), .lit (.int .i64 r.2.2.1), .lit (.bool r.2.2.2.1), .lit (.bool r.2.2.2.2.1), .lit (.bool r.2.2.2.2.2)]
def shpV (r : Bool × Bool × Int × Bool × Bool × Bool) : List Value := [.bool r.1, .bool r.2.1, .int .i64 r.2.2.1, .bool r.2.2.2.1, .bool r.2.2.2.2.1, .bool r.2.2.2.2.2]
set_option maxRecDepth 20000 in
theorem shp_rows {W : World} {fuel : Nat} {cs : List Value} {r : Bool × Bool × Int × Bool × Bool × Bool} {p : List MemPlace} (h : DataW.trod (fun _ => ()) Tryd.prog W 0 (fun _ => true) false fuel 100 cs = some (shpF r, p)) : cs = shpV r := by
  obtain ⟨xs, n, _, hx, hl, hlen, hfx⟩ := DataW.trod_struct Tryd.underlying100 h
  have hxs : xs.map (·.1) = [.lit (.bool r.1), .lit (.bool r.2.1), .lit (.int .i64 r.2.2.1), .lit (.bool r.2.2.2.1), .lit (.bool r.2.2.2.2.1), .lit (.bool r.2.2.2.2.2)] := by
    have := congrArg Prod.fst hx
    simpa [shpF] using this.symm
  have hxl : xs.length = 6 := by
    have := congrArg List.length hxs
    simpa using this
  obtain ⟨x0, x1, x2, x3, x4, x5, rfl⟩ := six_of xs hxl
  injection hxs with e0 hxs
  injection hxs with e1 hxs
  injection hxs with e2 hxs
  injection hxs with e3 hxs
  injection hxs with e4 hxs
  injection hxs with e5 _
  obtain ⟨z0, c0, d0⟩ := DataW.trod_bool Tryd.underlying4 (hfx 0 _ rfl)
  obtain ⟨z1, c1, d1⟩ := DataW.trod_bool Tryd.underlying4 (hfx 1 _ rfl)
  obtain ⟨z2, c2, d2, _⟩ := DataW.trod_int Tryd.underlying2 (hfx 2 _ rfl)
  obtain ⟨z3, c3, d3⟩ := DataW.trod_bool Tryd.underlying4 (hfx 3 _ rfl)
  obtain ⟨z4, c4, d4⟩ := DataW.trod_bool Tryd.underlying4 (hfx 4 _ rfl)
  obtain ⟨z5, c5, d5⟩ := DataW.trod_bool Tryd.underlying4 (hfx 5 _ rfl)
  have hl' : cs.length = 6 := hl.trans (by kernel_rfl)
  have kb : Tryd.prog.cellsOf 4 = 1 := by kernel_rfl
  have ki : Tryd.prog.cellsOf 2 = 1 := by kernel_rfl
  obtain ⟨a, b, c, d, e, f, rfl⟩ := six_of cs hl'
  have c0' : List.take (Tryd.prog.cellsOf 4) [a, b, c, d, e, f] = _ := c0
  have c1' : List.take (Tryd.prog.cellsOf 4) [b, c, d, e, f] = _ := c1
  have c2' : List.take (Tryd.prog.cellsOf 2) [c, d, e, f] = _ := c2
  have c3' : List.take (Tryd.prog.cellsOf 4) [d, e, f] = _ := c3
  have c4' : List.take (Tryd.prog.cellsOf 4) [e, f] = _ := c4
  have c5' : List.take (Tryd.prog.cellsOf 4) [f] = _ := c5
  rw [kb] at c0' c1' c3' c4' c5'
  rw [ki] at c2'
  clear c0 c1 c2 c3 c4 c5
  simp only [List.take_succ_cons, List.take_zero, List.cons.injEq, and_true] at c0' c1' c2' c3' c4' c5'
  subst c0' c1' c2' c3' c4' c5'
  rw [d0] at e0
  rw [d1] at e1
  rw [d2] at e2
  rw [d3] at e3
  rw [d4] at e4
  rw [d5] at e5
  injection e0 with e0
  injection e1 with e1
  injection e2 with e2
  injection e3 with e3
  injection e4 with e4
  injection e5 with e5
  injection e0 with e0
  injection e1 with e1
  injection e2 with _ e2
  injection e3 with e3
  injection e4 with e4
  injection e5 with e5
  subst e0 e1 e2 e3 e4 e5
  rfl
set_option maxRecDepth 20000 in
theorem gShp : Tryd.prog.globalNamed "davenport/value.shapes" = some 1 := by kernel_rfl
set_option maxRecDepth 20000 in
theorem gShpType : (Tryd.prog.globals[1]?).map (·.type) = some 101 := by kernel_rfl
set_option maxRecDepth 20000 in
/-- The condition of a row gives the table. -/
theorem stab_of {W : World} (h : Lib.VarReads Tryd.prog W "davenport/value.shapes" Rows.laid_davenport_value_shapes) : STab W := by
  obtain ⟨g', t', cs, fuel, p, hg', ht', hvar, hd⟩ := h
  obtain rfl := Option.some.inj (gShp.symm.trans hg')
  obtain rfl := Option.some.inj (gShpType.symm.trans ht')
  obtain ⟨hl, -, hr⟩ := cells_of_rowsG (m := 6) (F := shpF) (V := shpV) (rows := [(false, false, 0, false, false, false), (true, false, 0, false, false, false), (true, false, 1, false, false, false), (true, true, 0, false, false, false), (true, false, 0, true, false, false), (true, false, 0, false, false, true), (true, false, 0, false, true, true)]) Tryd.underlying101 (by kernel_rfl) (by kernel_rfl) (fun cs' f' zs p' h' => shp_rows h') hd
  intro i v hi
  have hc := World.var?_cell gShp hvar i
  rw [Nat.zero_add, hc, ← Array.getElem?_toList]
  have hi42 : i < 42 := (List.getElem?_eq_some_iff.1 hi).1
  match i, hi42, hi with
  | 0, _, hi => exact (chunk (q := 0) (m := 6) (r := 0) (hr 0 _ rfl) rfl).trans hi
  | 1, _, hi => exact (chunk (q := 0) (m := 6) (r := 1) (hr 0 _ rfl) rfl).trans hi
  | 2, _, hi => exact (chunk (q := 0) (m := 6) (r := 2) (hr 0 _ rfl) rfl).trans hi
  | 3, _, hi => exact (chunk (q := 0) (m := 6) (r := 3) (hr 0 _ rfl) rfl).trans hi
  | 4, _, hi => exact (chunk (q := 0) (m := 6) (r := 4) (hr 0 _ rfl) rfl).trans hi
  | 5, _, hi => exact (chunk (q := 0) (m := 6) (r := 5) (hr 0 _ rfl) rfl).trans hi
  | 6, _, hi => exact (chunk (q := 1) (m := 6) (r := 0) (hr 1 _ rfl) rfl).trans hi
  | 7, _, hi => exact (chunk (q := 1) (m := 6) (r := 1) (hr 1 _ rfl) rfl).trans hi
  | 8, _, hi => exact (chunk (q := 1) (m := 6) (r := 2) (hr 1 _ rfl) rfl).trans hi
  | 9, _, hi => exact (chunk (q := 1) (m := 6) (r := 3) (hr 1 _ rfl) rfl).trans hi
  | 10, _, hi => exact (chunk (q := 1) (m := 6) (r := 4) (hr 1 _ rfl) rfl).trans hi
  | 11, _, hi => exact (chunk (q := 1) (m := 6) (r := 5) (hr 1 _ rfl) rfl).trans hi
  | 12, _, hi => exact (chunk (q := 2) (m := 6) (r := 0) (hr 2 _ rfl) rfl).trans hi
  | 13, _, hi => exact (chunk (q := 2) (m := 6) (r := 1) (hr 2 _ rfl) rfl).trans hi
  | 14, _, hi => exact (chunk (q := 2) (m := 6) (r := 2) (hr 2 _ rfl) rfl).trans hi
  | 15, _, hi => exact (chunk (q := 2) (m := 6) (r := 3) (hr 2 _ rfl) rfl).trans hi
  | 16, _, hi => exact (chunk (q := 2) (m := 6) (r := 4) (hr 2 _ rfl) rfl).trans hi
  | 17, _, hi => exact (chunk (q := 2) (m := 6) (r := 5) (hr 2 _ rfl) rfl).trans hi
  | 18, _, hi => exact (chunk (q := 3) (m := 6) (r := 0) (hr 3 _ rfl) rfl).trans hi
  | 19, _, hi => exact (chunk (q := 3) (m := 6) (r := 1) (hr 3 _ rfl) rfl).trans hi
  | 20, _, hi => exact (chunk (q := 3) (m := 6) (r := 2) (hr 3 _ rfl) rfl).trans hi
  | 21, _, hi => exact (chunk (q := 3) (m := 6) (r := 3) (hr 3 _ rfl) rfl).trans hi
  | 22, _, hi => exact (chunk (q := 3) (m := 6) (r := 4) (hr 3 _ rfl) rfl).trans hi
  | 23, _, hi => exact (chunk (q := 3) (m := 6) (r := 5) (hr 3 _ rfl) rfl).trans hi
  | 24, _, hi => exact (chunk (q := 4) (m := 6) (r := 0) (hr 4 _ rfl) rfl).trans hi
  | 25, _, hi => exact (chunk (q := 4) (m := 6) (r := 1) (hr 4 _ rfl) rfl).trans hi
  | 26, _, hi => exact (chunk (q := 4) (m := 6) (r := 2) (hr 4 _ rfl) rfl).trans hi
  | 27, _, hi => exact (chunk (q := 4) (m := 6) (r := 3) (hr 4 _ rfl) rfl).trans hi
  | 28, _, hi => exact (chunk (q := 4) (m := 6) (r := 4) (hr 4 _ rfl) rfl).trans hi
  | 29, _, hi => exact (chunk (q := 4) (m := 6) (r := 5) (hr 4 _ rfl) rfl).trans hi
  | 30, _, hi => exact (chunk (q := 5) (m := 6) (r := 0) (hr 5 _ rfl) rfl).trans hi
  | 31, _, hi => exact (chunk (q := 5) (m := 6) (r := 1) (hr 5 _ rfl) rfl).trans hi
  | 32, _, hi => exact (chunk (q := 5) (m := 6) (r := 2) (hr 5 _ rfl) rfl).trans hi
  | 33, _, hi => exact (chunk (q := 5) (m := 6) (r := 3) (hr 5 _ rfl) rfl).trans hi
  | 34, _, hi => exact (chunk (q := 5) (m := 6) (r := 4) (hr 5 _ rfl) rfl).trans hi
  | 35, _, hi => exact (chunk (q := 5) (m := 6) (r := 5) (hr 5 _ rfl) rfl).trans hi
  | 36, _, hi => exact (chunk (q := 6) (m := 6) (r := 0) (hr 6 _ rfl) rfl).trans hi
  | 37, _, hi => exact (chunk (q := 6) (m := 6) (r := 1) (hr 6 _ rfl) rfl).trans hi
  | 38, _, hi => exact (chunk (q := 6) (m := 6) (r := 2) (hr 6 _ rfl) rfl).trans hi
  | 39, _, hi => exact (chunk (q := 6) (m := 6) (r := 3) (hr 6 _ rfl) rfl).trans hi
  | 40, _, hi => exact (chunk (q := 6) (m := 6) (r := 4) (hr 6 _ rfl) rfl).trans hi
  | 41, _, hi => exact (chunk (q := 6) (m := 6) (r := 5) (hr 6 _ rfl) rfl).trans hi
end Go.Proofs.YtndolgbbochpjaaDoor
/-
  Layer 7: the table of ranks out of a row's condition.
-/
namespace Go.Proofs.YtndolgbbochpjaaDoor
open Go.RowKit
set_option linter.unusedVariables false

set_option maxRecDepth 20000 in
theorem gRk : Tryd.prog.globalNamed "davenport/collate.ranks" = some 0 := by kernel_rfl
set_option maxRecDepth 20000 in
theorem gRkType : (Tryd.prog.globals[0]?).map (·.type) = some 92 := by kernel_rfl
set_option maxRecDepth 20000 in
theorem rtab_of {W : World} (h : Lib.VarReads Tryd.prog W "davenport/collate.ranks" Rows.laid_davenport_collate_ranks) : RTab W := by
  obtain ⟨g', t', cs, fuel, p, hg', ht', hvar, hd⟩ := h
  obtain rfl := Option.some.inj (gRk.symm.trans hg')
  obtain rfl := Option.some.inj (gRkType.symm.trans ht')
  have hc : cs.toList = _ := Lib.cells_of_tab (zs := [0, 1, 2, 4, 5, 6, 7]) (k := .i64) (n := 7) (e := 3) (by kernel_rfl) Tryd.underlying3 (by kernel_rfl) (by kernel_rfl) hd
  intro i v hi
  have hc2 := World.var?_cell gRk hvar i
  rw [Nat.zero_add, hc2, ← Array.getElem?_toList, hc]
  exact hi
end Go.Proofs.YtndolgbbochpjaaDoor
