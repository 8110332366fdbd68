import Derived.Test.YtndolgbbochpjaaDoorGah
import Derived.Test.YtndolgbbochpjaaDoorGag
import Derived.Test.YtndolgbbochpjaaDoorGae
import Derived.Deep.QuietTactic
/-
  Layer 7: Front.
-/
namespace Go.Proofs.YtndolgbbochpjaaDoor
open Go.RowKit
set_option linter.unusedVariables false

/-- The front of a value. -/
def frontV (T : VT) (m : Nat) : VT :=
  match T with
  | .mk k n s cA cn cc kA kn kc keys kids => if k = 5 ∧ m < cn then .mk 5 0 ⟨#[]⟩ cA m m none 0 0 [] (kids.take m) else .mk k n s cA cn cc kA kn kc keys kids
def FrQ (T : VT) (m : Int) (X : VT) (E : Int) : Prop := (m < 0 ∧ X = scV 0 0 ⟨#[]⟩ ∧ E = 2) ∨ (0 ≤ m ∧ X = frontV T m.toNat ∧ E = 0)
set_option maxRecDepth 20000 in
set_option maxHeartbeats 1000000 in
theorem frontW_any (T : VT) (m : Int) (B p q : Nat) (w : World) (hL : Lie w B T) (hB : B ≤ w.heap.size) (hp : w.cell? ⟨p, 0, none⟩ = some (.int .i64 m)) (hq : ∀ i v, T.cells[i]? = some v → w.cell? ⟨q, i, none⟩ = some v) :
    Calls Tryd.prog 45 #[.pointer (some ⟨p, 0, none⟩), .pointer (some ⟨q, 0, none⟩)] w fun e w' => ∃ X E, e = .returned (.tuple #[X.agg, .int .i64 E]) ∧ FrQ T m X E ∧ Below w.heap.size w w' := by
  obtain ⟨k, n, s, cA, cn, cc, kA, kn, kc, keys, kids⟩ := T
  have hb0 := bel_alloc (Below.refl w.heap.size w) (.cells #[.int .i64 0, .int .i64 0, .string ⟨#[]⟩, .slice none 0 0, .slice none 0 0] 25)
  have HV := VFive.new w (.int .i64 0) (.int .i64 0) (.string ⟨#[]⟩) (.slice none 0 0) (.slice none 0 0) 25 w.heap.size rfl
  have hpl := World.block_lt_of_cell? w _ hp
  have hql := World.block_lt_of_cell? w _ (hq 0 _ rfl)
  have k0 : ∀ o, (w.alloc (.cells #[.int .i64 0, .int .i64 0, .string ⟨#[]⟩, .slice none 0 0, .slice none 0 0] 25)).cell? ⟨q, o, none⟩ = w.cell? ⟨q, o, none⟩ := fun o => World.cell?_alloc_lt w _ ⟨q, o, none⟩ hql
  have p0 : (w.alloc (.cells #[.int .i64 0, .int .i64 0, .string ⟨#[]⟩, .slice none 0 0, .slice none 0 0] 25)).cell? ⟨p, 0, none⟩ = some (.int .i64 m) := (World.cell?_alloc_lt w _ ⟨p, 0, none⟩ hpl).trans hp
  have v0 := (k0 0).trans (hq 0 _ rfl)
  have v1 := (k0 1).trans (hq 1 _ rfl)
  have v2 := (k0 2).trans (hq 2 _ rfl)
  have v3 := (k0 3).trans (hq 3 _ rfl)
  have v4 := (k0 4).trans (hq 4 _ rfl)
  have hcn : 0 < cn → cA ≠ none := by
    cases hL with
    | mk a1 a2 a3 a4 =>
      intro h0 e
      subst e
      obtain ⟨b, off, x, h, -⟩ := kids_at a1 h0
      cases h
  have hcc : cn ≤ cc := by
    cases hL with
    | mk a1 a2 a3 a4 => obtain ⟨_, _, _, hh, _⟩ := a3; exact hh
  obtain ⟨⟨y0, y1, y2, y3, y4⟩, f0, f1, f2, f3, f4⟩ := HV
  clear hL hq k0 hp
  by_cases hm : m < 0
  · have HQ := Lib.hid (show FrQ (.mk k n s cA cn cc kA kn kc keys kids) m (scV 0 0 ⟨#[]⟩) 2 from .inl ⟨hm, rfl, rfl⟩)
    have hm' : (m < 0) = True := by simp [hm]
    clear hcn hcc
    go_enter Tryd.func45, Tryd.ntmps45
    go_wp2
    refine bodyPost_ret (v := .tuple #[.agg #[.int .i64 0, .int .i64 0, .string ⟨#[]⟩, .slice none 0 0, .slice none 0 0], .int .i64 2]) ?_ rfl ⟨scV 0 0 ⟨#[]⟩, 2, rfl, HQ.out, bel_alloc (Below.refl _ _) _⟩
    simp [results, Tryd.results45, go_sem, *]
  · obtain ⟨j, rfl⟩ : ∃ j : Nat, m = (j : Int) := ⟨m.toNat, by omega⟩
    have hm' : ((j : Int) < 0) = False := by simp
    by_cases hf : k = 5 ∧ j < cn
    · have HQ := Lib.hid (show FrQ (.mk k n s cA cn cc kA kn kc keys kids) j (.mk 5 0 ⟨#[]⟩ cA j j none 0 0 [] (kids.take j)) 0 from .inr ⟨by omega, by rw [Int.toNat_natCast]; exact (if_pos hf).symm, rfl⟩)
      obtain ⟨rfl, hjc⟩ := hf
      obtain ⟨a, rfl⟩ : ∃ a, cA = some a := by
        cases cA with
        | none => exact absurd rfl (hcn (by omega))
        | some a => exact ⟨a, rfl⟩
      have h1 : ((cn : Int) ≤ (j : Int)) = False := by simp; omega
      have h2 : (0 : Int) ≤ (j : Int) := by omega
      have h3 : (j : Int) ≤ (cc : Int) := by omega
      have h4 : (j : Int) ≤ (cn : Int) := by omega
      clear hcn hm
      go_enter Tryd.func45, Tryd.ntmps45
      go_wp2
      refine bodyPost_ret (v := .tuple #[.agg #[.int .i64 5, .int .i64 0, .string ⟨#[]⟩, .slice (some a) j j, .slice none 0 0], .int .i64 0]) ?_ rfl ⟨_, 0, rfl, HQ.out, bel_alloc (Below.refl _ _) _⟩
      simp [results, Tryd.results45, go_sem, *]
    · have HQ := Lib.hid (show FrQ (.mk k n s cA cn cc kA kn kc keys kids) j (.mk k n s cA cn cc kA kn kc keys kids) 0 from .inr ⟨by omega, by rw [Int.toNat_natCast]; exact (if_neg hf).symm, rfl⟩)
      by_cases hk5 : k = 5
      · subst hk5
        have h1 : ((cn : Int) ≤ (j : Int)) = True := by simp; omega
        clear hcn hm hf
        go_enter Tryd.func45, Tryd.ntmps45
        go_wp2
        refine bodyPost_ret (v := .tuple #[.agg #[.int .i64 5, .int .i64 n, .string s, .slice cA cn cc, .slice kA kn kc], .int .i64 0]) ?_ rfl ⟨_, 0, rfl, HQ.out, bel_alloc (Below.refl _ _) _⟩
        simp [results, Tryd.results45, go_sem, *]
      · clear hcn hm hf
        go_enter Tryd.func45, Tryd.ntmps45
        go_wp2
        refine bodyPost_ret (v := .tuple #[.agg #[.int .i64 k, .int .i64 n, .string s, .slice cA cn cc, .slice kA kn kc], .int .i64 0]) ?_ rfl ⟨_, 0, rfl, HQ.out, bel_alloc (Below.refl _ _) _⟩
        simp [results, Tryd.results45, go_sem, *]
def FrP (T : VT) (m : Int) (X : VT) (E : Int) : Prop := (T.ok = false ∧ X = scV 0 0 ⟨#[]⟩ ∧ E = 140) ∨ (T.ok = true ∧ FrQ T m X E)
set_option maxRecDepth 20000 in
set_option maxHeartbeats 1000000 in
theorem frontT_any (T : VT) (m : Int) (B : Nat) (w : World) (hL : Lie w B T) (hB : B ≤ w.heap.size) (htab : UTab w) (hst : STab w) :
    Calls Tryd.prog 21 #[T.agg, .int .i64 m] w fun e w' => ∃ X E, e = .returned (.tuple #[X.agg, .int .i64 E]) ∧ Hid (FrP T m X E) ∧ Below w.heap.size w w' := by
  obtain ⟨k, n, s, cA, cn, cc, kA, kn, kc, keys, kids⟩ := T
  have hb := bel_alloc (bel_alloc (bel_alloc (bel_alloc (bel_alloc (Below.refl w.heap.size w) (.cells #[.int .i64 k, .int .i64 n, .string s, .slice cA cn cc, .slice kA kn kc] 25)) (.cells #[.int .i64 m] 3)) (.cells #[.int .i64 0, .int .i64 0, .string ⟨#[]⟩, .slice none 0 0, .slice none 0 0] 25)) (.cells #[.int .i64 k, .int .i64 n, .string s, .slice cA cn cc, .slice kA kn kc] 25)) (.cells #[.slice (some ⟨w.heap.size + 3, 0, none⟩) 1 1] 22)
  have hsz : (((((w.alloc (.cells #[.int .i64 k, .int .i64 n, .string s, .slice cA cn cc, .slice kA kn kc] 25)).alloc (.cells #[.int .i64 m] 3)).alloc (.cells #[.int .i64 0, .int .i64 0, .string ⟨#[]⟩, .slice none 0 0, .slice none 0 0] 25)).alloc (.cells #[.int .i64 k, .int .i64 n, .string s, .slice cA cn cc, .slice kA kn kc] 25)).alloc (.cells #[.slice (some ⟨w.heap.size + 3, 0, none⟩) 1 1] 22)).heap.size = w.heap.size + 5 := by simp
  have c0 := ((((VFive.new w (.int .i64 k) (.int .i64 n) (.string s) (.slice cA cn cc) (.slice kA kn kc) 25 w.heap.size rfl).alloc (.cells #[.int .i64 m] 3)).alloc (.cells #[.int .i64 0, .int .i64 0, .string ⟨#[]⟩, .slice none 0 0, .slice none 0 0] 25)).alloc (.cells #[.int .i64 k, .int .i64 n, .string s, .slice cA cn cc, .slice kA kn kc] 25)).alloc (.cells #[.slice (some ⟨w.heap.size + 3, 0, none⟩) 1 1] 22)
  have c1 : (((((w.alloc (.cells #[.int .i64 k, .int .i64 n, .string s, .slice cA cn cc, .slice kA kn kc] 25)).alloc (.cells #[.int .i64 m] 3)).alloc (.cells #[.int .i64 0, .int .i64 0, .string ⟨#[]⟩, .slice none 0 0, .slice none 0 0] 25)).alloc (.cells #[.int .i64 k, .int .i64 n, .string s, .slice cA cn cc, .slice kA kn kc] 25)).alloc (.cells #[.slice (some ⟨w.heap.size + 3, 0, none⟩) 1 1] 22)).cell? ⟨w.heap.size + 1, 0, none⟩ = some (.int .i64 m) := by
    have := ((((Box.new (w.alloc (.cells #[.int .i64 k, .int .i64 n, .string s, .slice cA cn cc, .slice kA kn kc] 25)) #[.int .i64 m] 3).alloc (.cells #[.int .i64 0, .int .i64 0, .string ⟨#[]⟩, .slice none 0 0, .slice none 0 0] 25)).alloc (.cells #[.int .i64 k, .int .i64 n, .string s, .slice cA cn cc, .slice kA kn kc] 25)).alloc (.cells #[.slice (some ⟨w.heap.size + 3, 0, none⟩) 1 1] 22) 0 _ rfl).1
    have e : (w.alloc (.cells #[.int .i64 k, .int .i64 n, .string s, .slice cA cn cc, .slice kA kn kc] 25)).heap.size = w.heap.size + 1 := by simp
    rwa [e] at this
  have c2 := ((VFive.new ((w.alloc (.cells #[.int .i64 k, .int .i64 n, .string s, .slice cA cn cc, .slice kA kn kc] 25)).alloc (.cells #[.int .i64 m] 3)) (.int .i64 0) (.int .i64 0) (.string ⟨#[]⟩) (.slice none 0 0) (.slice none 0 0) 25 (w.heap.size + 2) (by simp)).alloc (.cells #[.int .i64 k, .int .i64 n, .string s, .slice cA cn cc, .slice kA kn kc] 25)).alloc (.cells #[.slice (some ⟨w.heap.size + 3, 0, none⟩) 1 1] 22)
  have c3 := (VFive.new (((w.alloc (.cells #[.int .i64 k, .int .i64 n, .string s, .slice cA cn cc, .slice kA kn kc] 25)).alloc (.cells #[.int .i64 m] 3)).alloc (.cells #[.int .i64 0, .int .i64 0, .string ⟨#[]⟩, .slice none 0 0, .slice none 0 0] 25)) (.int .i64 k) (.int .i64 n) (.string s) (.slice cA cn cc) (.slice kA kn kc) 25 (w.heap.size + 3) (by simp)).alloc (.cells #[.slice (some ⟨w.heap.size + 3, 0, none⟩) 1 1] 22)
  have c4 : (((((w.alloc (.cells #[.int .i64 k, .int .i64 n, .string s, .slice cA cn cc, .slice kA kn kc] 25)).alloc (.cells #[.int .i64 m] 3)).alloc (.cells #[.int .i64 0, .int .i64 0, .string ⟨#[]⟩, .slice none 0 0, .slice none 0 0] 25)).alloc (.cells #[.int .i64 k, .int .i64 n, .string s, .slice cA cn cc, .slice kA kn kc] 25)).alloc (.cells #[.slice (some ⟨w.heap.size + 3, 0, none⟩) 1 1] 22)).cell? ⟨w.heap.size + 4, 0, none⟩ = some (.slice (some ⟨w.heap.size + 3, 0, none⟩) 1 1) := by
    have := (Box.new ((((w.alloc (.cells #[.int .i64 k, .int .i64 n, .string s, .slice cA cn cc, .slice kA kn kc] 25)).alloc (.cells #[.int .i64 m] 3)).alloc (.cells #[.int .i64 0, .int .i64 0, .string ⟨#[]⟩, .slice none 0 0, .slice none 0 0] 25)).alloc (.cells #[.int .i64 k, .int .i64 n, .string s, .slice cA cn cc, .slice kA kn kc] 25)) #[.slice (some ⟨w.heap.size + 3, 0, none⟩) 1 1] 22 0 _ rfl).1
    have e : ((((w.alloc (.cells #[.int .i64 k, .int .i64 n, .string s, .slice cA cn cc, .slice kA kn kc] 25)).alloc (.cells #[.int .i64 m] 3)).alloc (.cells #[.int .i64 0, .int .i64 0, .string ⟨#[]⟩, .slice none 0 0, .slice none 0 0] 25)).alloc (.cells #[.int .i64 k, .int .i64 n, .string s, .slice cA cn cc, .slice kA kn kc] 25)).heap.size = w.heap.size + 4 := by simp
    rwa [e] at this
  have hrow := one_row (B := (((((w.alloc (.cells #[.int .i64 k, .int .i64 n, .string s, .slice cA cn cc, .slice kA kn kc] 25)).alloc (.cells #[.int .i64 m] 3)).alloc (.cells #[.int .i64 0, .int .i64 0, .string ⟨#[]⟩, .slice none 0 0, .slice none 0 0] 25)).alloc (.cells #[.int .i64 k, .int .i64 n, .string s, .slice cA cn cc, .slice kA kn kc] 25)).alloc (.cells #[.slice (some ⟨w.heap.size + 3, 0, none⟩) 1 1] 22)).heap.size) (A := some ⟨w.heap.size + 3, 0, none⟩) (n := 1) (c := 1) (L := [.mk k n s cA cn cc kA kn kc keys kids])
    ⟨rfl, fun _ => ⟨w.heap.size + 3, 0, rfl, by rw [hsz]; omega, fun i v hv => by rw [Nat.zero_add]; exact five_cells c3 i v (by simpa [VT.cells] using hv)⟩⟩ (fun x hx => by rw [List.mem_singleton] at hx; subst hx; exact (hL.later (hb.mono hB)).more (Nat.le_trans hB hb.size)) (by omega) c4 (by rw [hsz]; omega)
  have hck := chkV_any (w.heap.size + 1) w.heap.size (FrQ (.mk k n s cA cn cc kA kn kc keys kids) m) _ 1 1 _ _ (((((w.alloc (.cells #[.int .i64 k, .int .i64 n, .string s, .slice cA cn cc, .slice kA kn kc] 25)).alloc (.cells #[.int .i64 m] 3)).alloc (.cells #[.int .i64 0, .int .i64 0, .string ⟨#[]⟩, .slice none 0 0, .slice none 0 0] 25)).alloc (.cells #[.int .i64 k, .int .i64 n, .string s, .slice cA cn cc, .slice kA kn kc] 25)).alloc (.cells #[.slice (some ⟨w.heap.size + 3, 0, none⟩) 1 1] 22)) hrow (Nat.le_refl _) (by decide) (htab.below hb htab.lt) (hst.below hb hst.lt) (fun hok W hbW => by
    have hb2 := bel_next hb hbW
    have hlt : w.heap.size + 1 < (((((w.alloc (.cells #[.int .i64 k, .int .i64 n, .string s, .slice cA cn cc, .slice kA kn kc] 25)).alloc (.cells #[.int .i64 m] 3)).alloc (.cells #[.int .i64 0, .int .i64 0, .string ⟨#[]⟩, .slice none 0 0, .slice none 0 0] 25)).alloc (.cells #[.int .i64 k, .int .i64 n, .string s, .slice cA cn cc, .slice kA kn kc] 25)).alloc (.cells #[.slice (some ⟨w.heap.size + 3, 0, none⟩) 1 1] 22)).heap.size := by rw [hsz]; omega
    exact frontW_any _ m B (w.heap.size + 1) w.heap.size W (hL.later (hb2.mono hB)) (Nat.le_trans hB hb2.size) ((hbW.cell (p := ⟨w.heap.size + 1, 0, none⟩) hlt).trans c1) (five_cells (c0.later hbW)))
  have HO := Lib.hid (by simp [okR] : okR [(⟨some ⟨w.heap.size + 3, 0, none⟩, 1, 1, [.mk k n s cA cn cc kA kn kc keys kids]⟩ : RowT)] = (VT.mk k n s cA cn cc kA kn kc keys kids).ok)
  have HC2 := Lib.hid c2
  obtain ⟨⟨v0, v1, v2, v3, v4⟩, -⟩ := c0
  simp only [VT.agg]
  clear hL htab hst hrow c1 c2 c3 c4 hsz
  go_enter Tryd.func21, Tryd.ntmps21
  go_wp2_with fail
  refine hck.mono ?_
  rintro e w1 ⟨⟨h1, rfl⟩ | ⟨h1, X, E, rfl, hq⟩, hb1⟩
  · rw [HO.out] at h1
    have h2 := Lib.hid (show FrP (.mk k n s cA cn cc kA kn kc keys kids) m (scV 0 0 ⟨#[]⟩) 140 from .inl ⟨h1, rfl, rfl⟩)
    obtain ⟨⟨y0, y1, y2, y3, y4⟩, f0, f1, f2, f3, f4⟩ := HC2.out.later hb1
    clear hck h1 v0 v1 v2 v3 v4 HO
    go_wp2
    refine bodyPost_ret (v := .tuple #[.agg #[.int .i64 0, .int .i64 0, .string ⟨#[]⟩, .slice none 0 0, .slice none 0 0], .int .i64 140]) ?_ rfl ⟨scV 0 0 ⟨#[]⟩, 140, rfl, h2, vbelow_set5 (bel_next hb hb1) (by omega)⟩
    simp [results, Tryd.results21, go_sem, *]
  · rw [HO.out] at h1
    have h2 := Lib.hid (show FrP (.mk k n s cA cn cc kA kn kc keys kids) m X E from .inr ⟨h1, hq⟩)
    obtain ⟨⟨y0, y1, y2, y3, y4⟩, f0, f1, f2, f3, f4⟩ := HC2.out.later hb1
    obtain ⟨k2, n2, s2, cA2, cn2, cc2, kA2, kn2, kc2, keys2, kids2⟩ := X
    simp only [VT.agg]
    clear hck h1 hq v0 v1 v2 v3 v4 HO
    go_wp2
    refine bodyPost_ret (v := .tuple #[.agg #[.int .i64 k2, .int .i64 n2, .string s2, .slice cA2 cn2 cc2, .slice kA2 kn2 kc2], .int .i64 E]) ?_ rfl ⟨.mk k2 n2 s2 cA2 cn2 cc2 kA2 kn2 kc2 keys2 kids2, E, rfl, h2, vbelow_set5 (bel_next hb hb1) (by omega)⟩
    simp [results, Tryd.results21, go_sem, *]
end Go.Proofs.YtndolgbbochpjaaDoor
/-
  Layer 7: slices.IsSortedFunc by compare.
-/
namespace Go.Proofs.YtndolgbbochpjaaDoor
open Go.RowKit
set_option linter.unusedVariables false

theorem rise_adj : ∀ L : List VT, (∀ t (h : t + 1 < L.length), cmpV L[t] L[t + 1] ≤ 0) → Rise L
  | [], _ => .nil
  | [x], _ => .cons (by simp) .nil
  | x :: y :: l, h => by
    have ih := rise_adj (y :: l) (fun t ht => h (t + 1) (by simp at ht ⊢; omega))
    have h0 : cmpV x y ≤ 0 := h 0 (by simp)
    refine .cons (fun z hz => ?_) ih
    rcases List.mem_cons.1 hz with rfl | hz
    · exact h0
    · have := List.rel_of_pairwise_cons ih hz
      exact (cmpV_is.tr x y z h0 this).1
theorem rise_at {L : List VT} (h : Rise L) (t : Nat) (ht : t + 1 < L.length) : cmpV L[t] L[t + 1] ≤ 0 := (List.pairwise_iff_getElem.1 h) t (t + 1) _ ht (Nat.lt_succ_self _)
/-- Says whether the values are in order. -/
def SrtB (L : List VT) (w : World) (e : Ending) (w' : World) : Prop := ∃ b, e = .returned (.bool b) ∧ (b = true ↔ Rise L) ∧ Fr w w'
theorem srtB_mk {L : List VT} {w : World} {w' : World} (b : Bool) {v : Value} (hv : v = .bool b) (h : b = true ↔ Rise L) (hf : Fr w w') : SrtB L w (.returned v) w' := ⟨b, by rw [hv], h, hf⟩
set_option maxRecDepth 20000 in
set_option maxHeartbeats 1000000 in
theorem sorted_any (A : Option Addr) (n c B : Nat) (L : List VT) (w : World) (h : Shows w B 5 A n (L.flatMap VT.cells)) (hL : ∀ x ∈ L, Lie w B x ∧ x.ok = true) (hB : B ≤ w.heap.size) (hn : n ≤ 1000) (hr : RTab w) :
    Calls Tryd.prog 40 #[.slice A n c, .func (.func 33) #[] #[]] w fun e w' => SrtB L w e w' := by
  have hlen := kids_len h
  rcases Nat.eq_zero_or_pos n with rfl | hpos
  · obtain rfl : L = [] := List.eq_nil_of_length_eq_zero hlen
    clear h hL hr
    go_enter Tryd.func40, Tryd.ntmps40
    go_wp2
    go_loopw [5] (fun i wr => i = .int .i64 (-1) ∧ wr = w) (fun _ _ => 0)
    case atStart => exact ⟨by go_num, rfl⟩
    case round =>
      obtain ⟨rfl, rfl⟩ := hrel
      go_wp2
      go_ret
      exact srtB_mk true rfl ⟨fun _ => .nil, fun _ => rfl⟩ (Fr.refl _)
  · obtain ⟨N, hN⟩ : ∃ N, N = n - 1 := ⟨_, rfl⟩
    have hw0 : IntKind.i64.wrap ((n : Int) - 1) = (N : Int) := by rw [IntKind.wrap_i64]; omega
    have Hls := Lib.hid hlen
    have HS := Lib.hid h
    have HLi := Lib.hid hL
    have Hr := Lib.hid hr
    have HNn := Lib.hid (show N + 1 = n by omega)
    clear h hL hr hlen hN
    go_enter Tryd.func40, Tryd.ntmps40
    go_wp2
    go_loopw [5] (fun i wr => ∃ u : Nat, i = .int .i64 u ∧ u ≤ N ∧ Hid (∀ t (ht : t + 1 < L.length), u ≤ t → cmpV L[t] L[t + 1] ≤ 0) ∧ Fr w wr) (fun i _ => (intOf i).toNat)
    case atStart => exact ⟨N, by go_num, Nat.le_refl _, Lib.hid (fun t ht hu => by have := HNn.out; have := Hls.out; omega), Fr.refl _⟩
    case round =>
      obtain ⟨u, rfl, huN, HU, hbr⟩ := hrel
      by_cases hu0 : u = 0
      · subst hu0
        have Hy := Lib.hid (show Rise L from rise_adj L (fun t ht => HU.out t ht (Nat.zero_le _)))
        clear HU
        go_wp2
        go_ret
        exact srtB_mk true rfl ⟨fun _ => Hy.out, fun _ => rfl⟩ hbr
      · obtain ⟨v, hv⟩ : ∃ v, v = u - 1 := ⟨_, rfl⟩
        have hvi : IntKind.i64.wrap ((u : Int) - 1) = (v : Int) := by rw [IntKind.wrap_i64]; have := HNn.out; omega
        have hun : u < n := by have := HNn.out; omega
        have hvn : v < n := by omega
        have hun' : (u : Int) < (n : Int) := by omega
        have hvn' : (v : Int) < (n : Int) := by omega
        have hu0' : (0 : Int) < (u : Int) := by omega
        have hu0'' : (0 : Int) ≤ (u : Int) := by omega
        have hv0' : (0 : Int) ≤ (v : Int) := by omega
        have hul : u < L.length := by have := Hls.out; omega
        have hvl : v < L.length := by have := Hls.out; omega
        have hx := List.getElem?_eq_getElem hul
        have hy := List.getElem?_eq_getElem hvl
        obtain ⟨b, off, hA1, hx5⟩ := kid_cells HS.out (Below.refl w.heap.size w) hB hx
        obtain ⟨b', off', hA2, hy5⟩ := kid_cells HS.out (Below.refl w.heap.size w) hB hy
        subst hA1
        injection hA2 with hA2
        injection hA2 with e1 e2
        subst e1 e2
        have Hc0 := Lib.hid (fun W (h : Fr w W) => compareV_any L[u] L[v] B W ((HLi.out _ (List.getElem_mem hul)).1.later (h.1.mono hB)) ((HLi.out _ (List.getElem_mem hvl)).1.later (h.1.mono hB)) (HLi.out _ (List.getElem_mem hul)).2 (HLi.out _ (List.getElem_mem hvl)).2 (Nat.le_trans hB h.1.size) (Hr.out.fr h))
        have Hno := Lib.hid (fun (hlt : cmpV L[u] L[v] < 0) (hR : Rise L) => show False by
          have h1 := rise_at hR v (by omega)
          have e : v + 1 = u := by omega
          simp only [e] at h1
          have := cmpV_is.turn L[v] L[u]
          omega)
        have Hyes := Lib.hid (fun (hge : ¬ cmpV L[u] L[v] < 0) => (show Hid (∀ t (ht : t + 1 < L.length), v ≤ t → cmpV L[t] L[t + 1] ≤ 0) from Lib.hid fun t ht hvt => by
          by_cases htv : t = v
          · subst htv
            have e : t + 1 = u := by omega
            simp only [e]
            have := cmpV_is.turn L[u] L[t]
            omega
          · exact HU.out t ht (by omega)))
        have hvN : v ≤ N := by omega
        have Hvu := Lib.hid (show v < u by omega)
        clear hv HU hx hy
        generalize L[u] = x at *
        generalize L[v] = y at *
        generalize cmpV x y = r at *
        obtain ⟨kx, nx, sx, cAx, cnx, ccx, kAx, knx, kcx, keysx, kidsx⟩ := x
        obtain ⟨ky, ny, sy, cAy, cny, ccy, kAy, kny, kcy, keysy, kidsy⟩ := y
        have x0 : ∀ W, Fr w W → W.cell? ⟨b, off + u * 5, none⟩ = some (.int .i64 kx) := fun W h => (hx5 W h).1
        have x1 : ∀ W, Fr w W → W.cell? ⟨b, off + u * 5 + 1, none⟩ = some (.int .i64 nx) := fun W h => (hx5 W h).2.1
        have x2 : ∀ W, Fr w W → W.cell? ⟨b, off + u * 5 + 2, none⟩ = some (.string sx) := fun W h => (hx5 W h).2.2.1
        have x3 : ∀ W, Fr w W → W.cell? ⟨b, off + u * 5 + 3, none⟩ = some (.slice cAx cnx ccx) := fun W h => (hx5 W h).2.2.2.1
        have x4 : ∀ W, Fr w W → W.cell? ⟨b, off + u * 5 + 4, none⟩ = some (.slice kAx knx kcx) := fun W h => (hx5 W h).2.2.2.2
        have y0 : ∀ W, Fr w W → W.cell? ⟨b, off + v * 5, none⟩ = some (.int .i64 ky) := fun W h => (hy5 W h).1
        have y1 : ∀ W, Fr w W → W.cell? ⟨b, off + v * 5 + 1, none⟩ = some (.int .i64 ny) := fun W h => (hy5 W h).2.1
        have y2 : ∀ W, Fr w W → W.cell? ⟨b, off + v * 5 + 2, none⟩ = some (.string sy) := fun W h => (hy5 W h).2.2.1
        have y3 : ∀ W, Fr w W → W.cell? ⟨b, off + v * 5 + 3, none⟩ = some (.slice cAy cny ccy) := fun W h => (hy5 W h).2.2.2.1
        have y4 : ∀ W, Fr w W → W.cell? ⟨b, off + v * 5 + 4, none⟩ = some (.slice kAy kny kcy) := fun W h => (hy5 W h).2.2.2.2
        have Hc := Hc0
        simp only [VT.agg] at Hc
        clear hx5 hy5 Hc0
        go_upto_region 4 with fail
        refine wp_region_held_drew (S := fun W => Fr w W) (by kernel_rfl) (hbr.drewN 1) (fun hHeld => ?_)
        refine rg_in 0 rfl (by kernel_rfl) (by kernel_rfl) (by kernel_rfl) (by rfl) (v := ?_) (fun _ _ _ h => h) hHeld (fun w hSw => ?_) ?_
        rotate_left
        · (try dsimp only at hSw); go_simp <;> (with_reducible rfl)
        (try simp only [Act.put, List.setIfInBounds_toArray, List.set_cons_zero, List.set_cons_succ])
        refine rg_in 1 rfl (by kernel_rfl) (by kernel_rfl) (by kernel_rfl) (by rfl) (v := ?_) (fun _ _ _ h => h) hHeld (fun w hSw => ?_) ?_
        rotate_left
        · (try dsimp only at hSw); go_simp <;> (with_reducible rfl)
        (try simp only [Act.put, List.setIfInBounds_toArray, List.set_cons_zero, List.set_cons_succ])
        refine rg_in 2 rfl (by kernel_rfl) (by kernel_rfl) (by kernel_rfl) (by rfl) (v := ?_) (fun _ _ _ h => h) hHeld (fun w hSw => ?_) ?_
        rotate_left
        · (try dsimp only at hSw); go_simp <;> (with_reducible rfl)
        (try simp only [Act.put, List.setIfInBounds_toArray, List.set_cons_zero, List.set_cons_succ])
        refine rg_in 3 rfl (by kernel_rfl) (by kernel_rfl) (by kernel_rfl) (by rfl) (v := ?_) (fun _ _ _ h => h) hHeld (fun w hSw => ?_) ?_
        rotate_left
        · (try dsimp only at hSw); go_simp <;> (with_reducible rfl)
        (try simp only [Act.put, List.setIfInBounds_toArray, List.set_cons_zero, List.set_cons_succ])
        refine rg_in 4 rfl (by kernel_rfl) (by kernel_rfl) (by kernel_rfl) (by rfl) (v := ?_) (fun _ _ _ h => h) hHeld (fun w hSw => ?_) ?_
        rotate_left
        · (try dsimp only at hSw); go_simp <;> (with_reducible rfl)
        (try simp only [Act.put, List.setIfInBounds_toArray, List.set_cons_zero, List.set_cons_succ])
        refine rg_in 5 rfl (by kernel_rfl) (by kernel_rfl) (by kernel_rfl) (by rfl) (v := ?_) (fun _ _ _ h => h) hHeld (fun w hSw => ?_) ?_
        rotate_left
        · (try dsimp only at hSw); go_simp <;> (with_reducible rfl)
        (try simp only [Act.put, List.setIfInBounds_toArray, List.set_cons_zero, List.set_cons_succ])
        refine rg_in 6 rfl (by kernel_rfl) (by kernel_rfl) (by kernel_rfl) (by rfl) (v := ?_) (fun _ _ _ h => h) hHeld (fun w hSw => ?_) ?_
        rotate_left
        · (try dsimp only at hSw); go_simp <;> (with_reducible rfl)
        (try simp only [Act.put, List.setIfInBounds_toArray, List.set_cons_zero, List.set_cons_succ])
        refine rg_in 7 rfl (by kernel_rfl) (by kernel_rfl) (by kernel_rfl) (by rfl) (v := ?_) (fun _ _ _ h => h) hHeld (fun w hSw => ?_) ?_
        rotate_left
        · (try dsimp only at hSw); go_simp <;> (with_reducible rfl)
        (try simp only [Act.put, List.setIfInBounds_toArray, List.set_cons_zero, List.set_cons_succ])
        refine rg_in 8 rfl (by kernel_rfl) (by kernel_rfl) (by kernel_rfl) (by rfl) (v := ?_) (fun _ _ _ h => h) hHeld (fun w hSw => ?_) ?_
        rotate_left
        · (try dsimp only at hSw); go_simp <;> (with_reducible rfl)
        (try simp only [Act.put, List.setIfInBounds_toArray, List.set_cons_zero, List.set_cons_succ])
        refine rg_in 9 rfl (by kernel_rfl) (by kernel_rfl) (by kernel_rfl) (by rfl) (v := ?_) (fun _ _ _ h => h) hHeld (fun w hSw => ?_) ?_
        rotate_left
        · (try dsimp only at hSw); go_simp <;> (with_reducible rfl)
        (try simp only [Act.put, List.setIfInBounds_toArray, List.set_cons_zero, List.set_cons_succ])
        refine rg_do 10 rfl (by kernel_rfl) (by rfl) (fun K hK => ?_)
        go_simp
        (go_at_call 33; (with_reducible refine (Hc.out _ hHeld).mono ?_); (rintro e w110 ⟨rfl, hb10⟩))
        refine hK.out _ _ (hHeld.next hb10) (fun hHeld => ?_)
        clear hK K
        (try simp only [Act.put, List.setIfInBounds_toArray, List.set_cons_zero, List.set_cons_succ])
        refine rg_in 11 rfl (by kernel_rfl) (by kernel_rfl) (by kernel_rfl) (by rfl) (v := ?_) (fun _ _ _ h => h) hHeld (fun w hSw => ?_) ?_
        rotate_left
        · (try dsimp only at hSw); go_simp <;> (with_reducible rfl)
        (try simp only [Act.put, List.setIfInBounds_toArray, List.set_cons_zero, List.set_cons_succ])
        refine wpAnyH_done (by kernel_rfl) ?_ _
        by_cases hr0 : r < 0
        · have Hn := Lib.hid (Hno.out hr0)
          have hr1 : decide (r < 0) = true := by simpa using hr0
          clear Hno Hyes
          go_wp2
          go_ret
          exact srtB_mk false rfl ⟨fun h => (by cases h), fun h => (Hn.out h).elim⟩ hHeld
        · have Hy := Hyes.out hr0
          have hr1 : decide (r < 0) = false := by simpa using hr0
          clear Hno Hyes
          go_wp2
          go_roundw
          case rel => exact ⟨v, by first | rfl | go_num, hvN, Hy, hHeld⟩
          case measure => have := Hvu.out; simp [intOf]; omega
end Go.Proofs.YtndolgbbochpjaaDoor
/-
  Layer 7: Place.
-/
namespace Go.Proofs.YtndolgbbochpjaaDoor
open Go.RowKit
set_option linter.unusedVariables false

def befN (T : VT) (L : List VT) : Nat := L.countP fun x => decide (cmpV x T < 0)
def uptN (T : VT) (L : List VT) : Nat := L.countP fun x => decide (cmpV x T ≤ 0)
def PlQ (L : List VT) (T : VT) (X : Int × Int) (E : Int) : Prop := (¬ Rise L ∧ X = (0, 0) ∧ E = 2) ∨ (Rise L ∧ X = ((befN T L : Int), (uptN T L : Int)) ∧ E = 0)
theorem bef_snoc {T x : VT} {L : List VT} {j : Nat} (h : L[j]? = some x) : befN T (L.take (j + 1)) = befN T (L.take j) + (if cmpV x T < 0 then 1 else 0) ∧ uptN T (L.take (j + 1)) = uptN T (L.take j) + (if cmpV x T ≤ 0 then 1 else 0) := by
  unfold befN uptN
  rw [List.take_add_one, h, List.countP_append, List.countP_append]
  simp
set_option maxRecDepth 20000 in
set_option maxHeartbeats 2000000 in
theorem placeW_any (A : Option Addr) (n c B p q : Nat) (L : List VT) (T : VT) (w : World) (h : Shows w B 5 A n (L.flatMap VT.cells)) (hL : ∀ x ∈ L, Lie w B x ∧ x.ok = true) (hT : Lie w B T) (hTok : T.ok = true) (hB : B ≤ w.heap.size) (hn : n ≤ 1000) (hr : RTab w)
    (hp : w.cell? ⟨p, 0, none⟩ = some (.slice A n c)) (hq : ∀ i v, T.cells[i]? = some v → w.cell? ⟨q, i, none⟩ = some v) :
    Calls Tryd.prog 39 #[.pointer (some ⟨p, 0, none⟩), .pointer (some ⟨q, 0, none⟩)] w fun e w' => ∃ X E, e = .returned (.tuple #[.agg #[.int .i64 X.1, .int .i64 X.2], .int .i64 E]) ∧ PlQ L T X E ∧ Below w.heap.size w w' := by
  have hlen := kids_len h
  have hf1 := (Fr.refl w).alloc (.cells #[.int .i64 0, .int .i64 0] 60)
  have HV := Lib.hid (VTwo.new w (.int .i64 0) (.int .i64 0) 60 w.heap.size rfl)
  have hpl := World.block_lt_of_cell? w _ hp
  have hql := World.block_lt_of_cell? w _ (show w.cell? ⟨q, 0, none⟩ = some (.int .i64 T.k) from hq 0 _ (by cases T; rfl))
  have Hp := Lib.hid (fun W (h : Below w.heap.size w W) => ((h.cell (p := ⟨p, 0, none⟩) hpl).trans hp))
  have Hq := Lib.hid (fun W (h : Below w.heap.size w W) i v (hv : T.cells[i]? = some v) => ((h.cell (p := ⟨q, i, none⟩) hql).trans (hq i v hv)))
  have hsrt := sorted_any A n c B L _ (h.below (hf1.1.mono hB)) (fun x hx => ⟨(hL x hx).1.later (hf1.1.mono hB), (hL x hx).2⟩) (Nat.le_trans hB hf1.1.size) hn (hr.fr hf1)
  have Hs := Lib.hid (fun W (hb : Below w.heap.size w W) => h.below (hb.mono hB))
  have Hc := Lib.hid (fun x (hx : x ∈ L) W (hb : Below w.heap.size w W) => compareV_any x T B W ((hL x hx).1.later (hb.mono hB)) (hT.later (hb.mono hB)) (hL x hx).2 hTok (Nat.le_trans hB hb.size) (hr.below hb hr.lt))
  have Hlen := Lib.hid hlen
  have HQ := Lib.hid (fun (X : Int × Int) (E : Int) => (Iff.rfl : PlQ L T X E ↔ _))
  obtain ⟨tk, tn, ts, tcA, tcn, tcc, tkA, tkn, tkc, tkeys, tkids⟩ := T
  simp only [VT.agg, VT.cells] at Hc Hq
  have HPl := Lib.hid (fun (X : Int × Int) (E : Int) (h : (¬ Rise L ∧ X = (0, 0) ∧ E = 2) ∨ (Rise L ∧ X = ((befN (.mk tk tn ts tcA tcn tcc tkA tkn tkc tkeys tkids) L : Int), (uptN (.mk tk tn ts tcA tcn tcc tkA tkn tkc tkeys tkids) L : Int)) ∧ E = 0)) => (show PlQ L (.mk tk tn ts tcA tcn tcc tkA tkn tkc tkeys tkids) X E from h))
  have hp1 := Hp.out _ hf1.1
  clear h hL hT hTok hr hp hq hpl hql hlen HQ
  go_enter Tryd.func39, Tryd.ntmps39
  go_wp2_with fail
  refine hsrt.mono ?_
  rintro e w2 ⟨b, rfl, hbr, hf2⟩
  have hf := hf1.next hf2
  have HV2 := Lib.hid (HV.out.later hf2.1)
  have Hbr := Lib.hid hbr
  clear hsrt hbr hp1 HV
  cases b
  · have Hn := Lib.hid (show ¬ Rise L from fun h => by have h2 := Hbr.out.2 h; cases h2)
    obtain ⟨⟨y0, y1⟩, f0, f1⟩ := HV2.out
    clear Hbr
    go_wp2
    refine bodyPost_ret (v := .tuple #[.agg #[.int .i64 0, .int .i64 0], .int .i64 2]) ?_ rfl ⟨(0, 0), 2, rfl, HPl.out _ _ (.inl ⟨Hn.out, rfl, rfl⟩), below_set2 hf.1 (Nat.le_refl _)⟩
    simp [results, Tryd.results39, go_sem, *]
  · have Hy := Lib.hid (Hbr.out.1 rfl)
    have hb3 := bel_alloc (Below.refl w2.heap.size w2) (.cells #[.int .i64 0, .int .i64 0] 60)
    have HP := Lib.hid (VTwo.new w2 (.int .i64 0) (.int .i64 0) 60 w2.heap.size rfl)
    have hp2 := Hp.out _ (bel_next hf.1 hb3)
    clear Hbr
    go_wp2
    go_loopw [14] (fun i wr => ∃ j u v : Nat, j ≤ n ∧ i = .int .i64 j ∧ Hid (u = befN (.mk tk tn ts tcA tcn tcc tkA tkn tkc tkeys tkids) (L.take j) ∧ v = uptN (.mk tk tn ts tcA tcn tcc tkA tkn tkc tkeys tkids) (L.take j)) ∧ u ≤ j ∧ v ≤ j ∧ Hid (VTwo wr w2.heap.size (.int .i64 u) (.int .i64 v)) ∧ Below w2.heap.size w2 wr) (fun i _ => n - (intOf i).toNat)
    case atStart => exact ⟨0, 0, 0, Nat.zero_le _, rfl, Lib.hid ⟨rfl, rfl⟩, Nat.le_refl _, Nat.le_refl _, HP, hb3⟩
    case round =>
      obtain ⟨j, u, v, hj, rfl, HC, hu, hv, HPr, hbr⟩ := hrel
      clear hp2 HP
      have hbw := bel_next hf.1 hbr
      by_cases hlt : j < n
      · obtain ⟨b, off, x, rfl, _, hx, h5⟩ := kids_at (Hs.out wr hbw) hlt
        have hsn := bef_snoc (T := .mk tk tn ts tcA tcn tcc tkA tkn tkc tkeys tkids) hx
        have hcx := Hc.out x (List.mem_of_getElem? hx)
        have H1 := Lib.hid (fun (h : cmpV x (.mk tk tn ts tcA tcn tcc tkA tkn tkc tkeys tkids) < 0) => (⟨by rw [hsn.1, if_pos h, HC.out.1], by rw [hsn.2, if_pos (by omega), HC.out.2]⟩ : u + 1 = befN (.mk tk tn ts tcA tcn tcc tkA tkn tkc tkeys tkids) (L.take (j + 1)) ∧ v + 1 = uptN (.mk tk tn ts tcA tcn tcc tkA tkn tkc tkeys tkids) (L.take (j + 1))))
        have H2 := Lib.hid (fun (h : cmpV x (.mk tk tn ts tcA tcn tcc tkA tkn tkc tkeys tkids) = 0) => (⟨by rw [hsn.1, if_neg (by omega), HC.out.1]; rfl, by rw [hsn.2, if_pos (by omega), HC.out.2]⟩ : u = befN (.mk tk tn ts tcA tcn tcc tkA tkn tkc tkeys tkids) (L.take (j + 1)) ∧ v + 1 = uptN (.mk tk tn ts tcA tcn tcc tkA tkn tkc tkeys tkids) (L.take (j + 1))))
        have H3 := Lib.hid (fun (h : 0 < cmpV x (.mk tk tn ts tcA tcn tcc tkA tkn tkc tkeys tkids)) => (⟨by rw [hsn.1, if_neg (by omega), HC.out.1]; rfl, by rw [hsn.2, if_neg (by omega), HC.out.2]; rfl⟩ : u = befN (.mk tk tn ts tcA tcn tcc tkA tkn tkc tkeys tkids) (L.take (j + 1)) ∧ v = uptN (.mk tk tn ts tcA tcn tcc tkA tkn tkc tkeys tkids) (L.take (j + 1))))
        have Hcx := Lib.hid hcx
        clear hx hsn HC hcx
        generalize cmpV x (.mk tk tn ts tcA tcn tcc tkA tkn tkc tkeys tkids) = r at *
        obtain ⟨xk, xn, xs, xcA, xcn, xcc, xkA, xkn, xkc, xkeys, xkids⟩ := x
        obtain ⟨g0, g1, g2, g3, g4⟩ := h5
        have hlt' : (j : Int) < (n : Int) := by omega
        have hb4 := bel_alloc hbr (.cells #[.int .i64 xk, .int .i64 xn, .string xs, .slice xcA xcn xcc, .slice xkA xkn xkc] 25)
        have hb4' := bel_alloc (Below.refl wr.heap.size wr) (.cells #[.int .i64 xk, .int .i64 xn, .string xs, .slice xcA xcn xcc, .slice xkA xkn xkc] 25)
        have HX := VFive.new wr (.int .i64 xk) (.int .i64 xn) (.string xs) (.slice xcA xcn xcc) (.slice xkA xkn xkc) 25 wr.heap.size rfl
        have hb5 := bel_next hf.1 hb4
        have q0 := Hq.out _ hb5 0 _ rfl
        have q1 := Hq.out _ hb5 1 _ rfl
        have q2 := Hq.out _ hb5 2 _ rfl
        have q3 := Hq.out _ hb5 3 _ rfl
        have q4 := Hq.out _ hb5 4 _ rfl
        have hcx := Hcx.out _ hb5
        simp only at hcx
        obtain ⟨⟨v0, v1, v2, v3, v4⟩, -⟩ := HX
        have HP4 := Lib.hid (HPr.out.later hb4')
        clear HPr Hcx
        go_wp2_with fail
        refine hcx.mono ?_
        rintro e w5 ⟨rfl, hf5⟩
        have hb6 := bel_next hb4 hf5.1
        have HP5 := Lib.hid (HP4.out.later hf5.1)
        obtain ⟨⟨z0, z1⟩, zf0, zf1⟩ := HP5.out
        clear hcx v0 v1 v2 v3 v4 q0 q1 q2 q3 q4 g0 g1 g2 g3 g4 HP4
        by_cases hr0 : r < 0
        · have H := Lib.hid (H1.out hr0)
          clear H1 H2 H3
          go_wp2
          go_roundw
          case rel => exact ⟨j + 1, u + 1, v + 1, by omega, by go_num, H, by omega, by omega, Lib.hid (by first | exact VTwo.set2 HP5.out | (simpa using VTwo.set2 HP5.out)), below_set2 hb6 (Nat.le_refl _)⟩
          case measure => simp [intOf]; omega
        · by_cases hr1 : r = 0
          · have H := Lib.hid (H2.out hr1)
            subst hr1
            clear H1 H2 H3 hr0
            go_wp2
            go_roundw
            case rel => exact ⟨j + 1, u, v + 1, by omega, by go_num, H, by omega, by omega, Lib.hid (by first | exact VTwo.set1 HP5.out | (simpa using VTwo.set1 HP5.out)), hb6.setCell (Nat.le_refl _) _⟩
            case measure => simp [intOf]; omega
          · have H := Lib.hid (H3.out (by omega))
            clear H1 H2 H3
            go_wp2
            go_roundw
            case rel => exact ⟨j + 1, u, v, by omega, by go_num, H, by omega, by omega, HP5, hb6⟩
            case measure => simp [intOf]; omega
      · obtain rfl : j = n := by omega
        have htk : L.take j = L := List.take_of_length_le (by have := Hlen.out; omega)
        rw [htk] at HC
        have HF := Lib.hid (HPl.out ((u : Int), (v : Int)) 0 (.inr ⟨Hy.out, by rw [HC.out.1, HC.out.2], rfl⟩))
        obtain ⟨⟨z0, z1⟩, zf0, zf1⟩ := HPr.out
        obtain ⟨⟨y0, y1⟩, f0, f1⟩ := HV2.out.later hbr
        clear HC
        go_wp2
        refine bodyPost_ret (v := .tuple #[.agg #[.int .i64 u, .int .i64 v], .int .i64 0]) ?_ rfl ⟨_, 0, rfl, HF.out, below_set2 hbw (Nat.le_refl _)⟩
        simp [results, Tryd.results39, go_sem, *]
end Go.Proofs.YtndolgbbochpjaaDoor
/-
  Layer 7, plain: fronts.
-/
namespace Go.Proofs.YtndolgbbochpjaaDoor
open Go.RowKit
set_option linter.unusedVariables false

theorem flat_take5 : ∀ (l : List VT) (m : Nat), (l.flatMap VT.cells).take (m * 5) = (l.take m).flatMap VT.cells
  | [], m => by simp
  | x :: l, 0 => by simp
  | x :: l, m + 1 => by
    rw [List.flatMap_cons, List.take_succ_cons, List.flatMap_cons, ← flat_take5 l m]
    have e : (m + 1) * 5 = x.cells.length + m * 5 := by rw [VT.cells_len]; omega
    rw [e, List.take_append, List.take_of_length_le (by omega), Nat.add_sub_cancel_left]
theorem front_lie {w : World} {B : Nat} {T : VT} (h : Lie w B T) (m : Nat) : Lie w B (frontV T m) := by
  obtain ⟨k, n, s, cA, cn, cc, kA, kn, kc, keys, kids⟩ := T
  by_cases hf : k = 5 ∧ m < cn
  · rw [show frontV (.mk k n s cA cn cc kA kn kc keys kids) m = .mk 5 0 ⟨#[]⟩ cA m m none 0 0 [] (kids.take m) from if_pos hf]
    cases h with
    | mk a1 a2 a3 a4 =>
      obtain ⟨_, _, _, h4, h5, h6, _⟩ := a3
      have hne : cA ≠ none := fun e => by
        subst e
        obtain ⟨b, off, x, h, -⟩ := kids_at a1 (show 0 < cn by omega)
        cases h
      have hs := a1.first (show m ≤ cn by omega)
      have hfl : (kids.flatMap VT.cells).take (m * 5) = (kids.take m).flatMap VT.cells := flat_take5 kids m
      rw [hfl] at hs
      exact .mk hs (Shows.zero none) ⟨by decide, by decide, by decide, Nat.le_refl _, by omega, fun e => absurd e hne, Nat.le_refl _, by decide, fun _ => rfl, by simp⟩ fun x hx => a4 x (List.mem_of_mem_take hx)
  · rw [show frontV (.mk k n s cA cn cc kA kn kc keys kids) m = .mk k n s cA cn cc kA kn kc keys kids from if_neg hf]
    exact h
theorem front_kids {w : World} {B : Nat} {T : VT} (h : Lie w B T) (hs : T.sized) (m : Nat) : (frontV T m).k = T.k ∧ (frontV T m).n = T.n ∧ (frontV T m).s = T.s ∧ (frontV T m).kids = (if T.k = 5 then T.kids.take m else T.kids) ∧ (frontV T m).keys = T.keys := by
  obtain ⟨f1, f2⟩ := fit_bare hs.1
  have hk := hs.2.2.1
  obtain ⟨k, n, s, cA, cn, cc, kA, kn, kc, keys, kids⟩ := T
  have hl : kids.length = cn := by
    cases h with
    | mk a1 a2 a3 a4 => exact kids_len a1
  simp only [VT.k, VT.n, VT.s, VT.keys] at f1 f2 hk
  by_cases hf : k = 5 ∧ m < cn
  · rw [show frontV (.mk k n s cA cn cc kA kn kc keys kids) m = .mk 5 0 ⟨#[]⟩ cA m m none 0 0 [] (kids.take m) from if_pos hf]
    obtain ⟨rfl, hm⟩ := hf
    exact ⟨rfl, (f1 (by decide) (by decide)).symm, (f2 (by decide)).symm, (if_pos rfl).symm, (hk (by decide)).symm⟩
  · rw [show frontV (.mk k n s cA cn cc kA kn kc keys kids) m = .mk k n s cA cn cc kA kn kc keys kids from if_neg hf]
    refine ⟨rfl, rfl, rfl, ?_, rfl⟩
    show kids = if k = 5 then kids.take m else kids
    by_cases h5 : k = 5
    · rw [if_pos h5, List.take_of_length_le (by omega)]
    · rw [if_neg h5]
theorem front_els {w : World} {B : Nat} {T : VT} (h : Lie w B T) (hs : T.sized) (m : Nat) : (frontV T m).els = if T.k = 5 then T.els.take m else T.els := by
  obtain ⟨a1, a2, a3, a4, a5⟩ := front_kids h hs m
  unfold VT.els
  rw [a1, a4, a5]
  by_cases h5 : T.k = 5
  · rw [if_pos h5, if_pos h5, if_neg (by omega), if_neg (by omega), List.map_take]
  · rw [if_neg h5, if_neg h5]
theorem front_e {w : World} {B : Nat} {T : VT} (h : Lie w B T) (hs : T.sized) (m : Nat) : (frontV T m).e = .mk T.k T.n T.s T.keys ((if T.k = 5 then T.kids.take m else T.kids).map VT.e) := by
  obtain ⟨a1, a2, a3, a4, a5⟩ := front_kids h hs m
  rw [e_of, a1, a2, a3, a4, a5]
theorem front_ok {w : World} {B : Nat} {T : VT} (h : Lie w B T) (hok : T.ok = true) (m : Nat) : (frontV T m).ok = true := by
  obtain ⟨k, n, s, cA, cn, cc, kA, kn, kc, keys, kids⟩ := T
  by_cases hf : k = 5 ∧ m < cn
  · rw [show frontV (.mk k n s cA cn cc kA kn kc keys kids) m = .mk 5 0 ⟨#[]⟩ cA m m none 0 0 [] (kids.take m) from if_pos hf]
    obtain ⟨rfl, hm⟩ := hf
    unfold VT.ok at hok ⊢
    simp only [Bool.and_eq_true, decide_eq_true_eq] at hok ⊢
    obtain ⟨h1, h2, h3⟩ := hok
    rw [dep_mk] at h1 ⊢
    rw [cnt_mk] at h2 ⊢
    rw [all_mk] at h3 ⊢
    simp only [Bool.and_eq_true, List.all_eq_true] at h3 ⊢
    have e := List.take_append_drop m kids
    rw [← e, List.map_append, maxL_append] at h1
    rw [← e, List.map_append, List.sum_append] at h2
    refine ⟨by omega, by omega, ?_, fun x hx => h3.2 x (List.mem_of_mem_take hx)⟩
    rw [fit_mk, strB_nil]
    have q1 : eleB 5 m = true := by unfold eleB eleQ shKids; simp
    have q2 : memB 5 m 0 [] = true := rfl
    rw [q1, q2]
    decide
  · rw [show frontV (.mk k n s cA cn cc kA kn kc keys kids) m = .mk k n s cA cn cc kA kn kc keys kids from if_neg hf]
    exact hok
theorem lex_front {α : Type} {f : α → α → Int} (hf : Cmp f) : ∀ (l : List α) (m : Nat), lexL f (l.take m) l ≤ 0
  | [], m => by simp [lexL]
  | x :: l, 0 => by simp [lexL]
  | x :: l, m + 1 => by
    rw [List.take_succ_cons, lexL, hf.self, thenI_0]
    exact lex_front hf l m
theorem lex_fronts {α : Type} {f : α → α → Int} (hf : Cmp f) : ∀ (l l' : List α) (m : Nat), lexL f l l' ≤ 0 → lexL f (l.take m) (l'.take m) ≤ 0
  | [], l', m, h => by
    rw [List.take_nil]
    cases l'.take m <;> simp [lexL]
  | x :: l, l', 0, h => by simp [lexL]
  | x :: l, [], m + 1, h => by simp [lexL] at h
  | x :: l, y :: l', m + 1, h => by
    rw [List.take_succ_cons, List.take_succ_cons, lexL]
    rw [lexL] at h
    unfold thenI at h ⊢
    by_cases hz : f x y = 0
    · rw [if_pos hz] at h ⊢
      exact lex_fronts hf l l' m h
    · rw [if_neg hz] at h ⊢
      exact h
theorem front_le {w : World} {B : Nat} {T : VT} (h : Lie w B T) (hok : T.ok = true) (m : Nat) : cmpV (frontV T m) T ≤ 0 := by
  have hs := Szd.sized (ok_szd h hok)
  obtain ⟨a1, a2, a3, -⟩ := front_kids h hs m
  have e := front_els h hs m
  have hr : rankV (frontV T m) = rankV T := by unfold rankV; rw [a1, a2]
  unfold cmpV
  rw [cmpF, hr, a2, a3, cmpQ_self, thenI_0, cmpQ_self, thenI_0, vcmp_self, thenI_0, e]
  by_cases h5 : T.k = 5
  · rw [if_pos h5]; exact lex_front (cmpE_is (cmpF_is 8)) _ _
  · rw [if_neg h5, (cmp_lex (cmpE_is (cmpF_is 8))).self]; exact Int.le_refl _
theorem fronts_le {w : World} {B : Nat} {T U : VT} (h : Lie w B T) (h' : Lie w B U) (hok : T.ok = true) (hok' : U.ok = true) (m : Nat) (hle : cmpV T U ≤ 0) : cmpV (frontV T m) (frontV U m) ≤ 0 := by
  have hs := Szd.sized (ok_szd h hok)
  have hs' := Szd.sized (ok_szd h' hok')
  obtain ⟨a1, a2, a3, -⟩ := front_kids h hs m
  obtain ⟨b1, b2, b3, -⟩ := front_kids h' hs' m
  have e := front_els h hs m
  have e' := front_els h' hs' m
  have hr : rankV (frontV T m) = rankV T := by unfold rankV; rw [a1, a2]
  have hr' : rankV (frontV U m) = rankV U := by unfold rankV; rw [b1, b2]
  unfold cmpV at hle ⊢
  rw [cmpF] at hle ⊢
  rw [hr, hr', a2, a3, b2, b3, e, e']
  by_cases hz : rankV T = rankV U
  · have hk := (rank_same hs.1 hs'.1 hz).1
    rw [hz, cmpQ_self, thenI_0] at hle ⊢
    rw [hk]
    by_cases h5 : U.k = 5
    · rw [if_pos h5, if_pos h5]
      have f1 := (fit_bare hs.1).1 (by omega) (by omega)
      have f2 := (fit_bare hs.1).2 (by omega)
      have g1 := (fit_bare hs'.1).1 (by omega) (by omega)
      have g2 := (fit_bare hs'.1).2 (by omega)
      rw [f1, g1, cmpQ_self, thenI_0, f2, g2, vcmp_self, thenI_0] at hle ⊢
      exact lex_fronts (cmpE_is (cmpF_is 8)) _ _ m hle
    · rw [if_neg h5, if_neg h5]
      exact hle
  · have hne : cmpQ (rankV T) (rankV U) ≠ 0 := fun e => hz (cmpQ_zero.1 e)
    unfold thenI at hle ⊢
    rw [if_neg hne] at hle ⊢
    exact hle
theorem fronts_same {w : World} {B : Nat} {T : VT} (h : Lie w B T) (hok : T.ok = true) (n m : Nat) : (frontV (frontV T n) m).e = (frontV T (min n m)).e := by
  have hs := Szd.sized (ok_szd h hok)
  have h2 := front_lie h n
  have hs2 := Szd.sized (ok_szd h2 (front_ok h hok n))
  obtain ⟨a1, a2, a3, a4, a5⟩ := front_kids h hs n
  rw [front_e h2 hs2 m, front_e h hs, a1, a2, a3, a4, a5]
  by_cases h5 : T.k = 5
  · rw [if_pos h5, if_pos h5, if_pos h5, List.take_take, Nat.min_comm]
  · rw [if_neg h5, if_neg h5, if_neg h5]
end Go.Proofs.YtndolgbbochpjaaDoor
/-
  Layer 7: the law's own some; where a value stands among values in order.
-/
namespace Go.Proofs.YtndolgbbochpjaaDoor
open Go.RowKit
set_option linter.unusedVariables false

theorem own_noneS {W : World} {b size n c : Nat} {e : TypeId} {A : Option Addr} {xs : List Value} (ho : W.ownsRow b e size (.slice A n c) n xs) : A = none → c = 0 := by
  intro hA
  rcases ho.2 with ⟨e, _⟩ | ⟨g, cap, cur, e, _⟩
  · injection e
  · injection e with e1; rw [hA] at e1; cases e1
theorem own_capS {W : World} {b size n c : Nat} {e : TypeId} {A : Option Addr} {xs : List Value} (ho : W.ownsRow b e size (.slice A n c) n xs) : n ≤ c := by
  rcases ho.2 with ⟨h, _⟩ | ⟨g, cap, cur, h, _, _, h1, h2, _⟩
  · injection h with h1 h2 h3; omega
  · injection h with e1 e2 e3; omega
set_option maxRecDepth 20000 in
set_option maxHeartbeats 1000000 in
theorem some_any (A0 : Option Addr) (n0 c0 B : Nat) (l0 : List VT) (w : World) (h0 : Shows w B 5 A0 n0 (l0.flatMap VT.cells)) (hB : B ≤ w.heap.size) (hc0 : n0 ≤ c0) (hM0 : c0 ≤ maxLen) :
    Calls Tryd.prog 14 #[.slice A0 n0 c0] w fun e w' => ∃ A c, e = .returned (.slice A (min n0 20) c) ∧ Hid (Shows w' w'.heap.size 5 A (min n0 20) ((l0.take (min n0 20)).flatMap VT.cells)) ∧ Hid (A = none → c = 0) ∧ min n0 20 ≤ c ∧ Below w.heap.size w w' := by
  obtain ⟨iV, hiV, hzV, hsV, hbV⟩ := val_info
  obtain ⟨m, hm⟩ : ∃ m, m = min n0 20 := ⟨_, rfl⟩
  rw [← hm]
  have hmi : min (n0 : Int) 20 = (m : Int) := by omega
  have hmj : (if (20 : Int) < (n0 : Int) then (20 : Int) else (n0 : Int)) = (m : Int) := by split <;> omega
  have hmle : m ≤ 20 := by omega
  have hmn : m ≤ n0 := by omega
  have hz1 : (0 : Int) ≤ m := by omega
  have hi1 : (m : Int) ≤ n0 := by omega
  have hj1 : (m : Int) ≤ c0 := by omega
  have hsh : Shows w B 5 A0 m ((l0.take m).flatMap VT.cells) := by have := h0.first hmn; rwa [flat_take5] at this
  generalize l0.take m = L at *
  have hone := vcells_one L
  have hown := World.ownsRow_lit (base := w.heap.size) (e := 25) (size := 5) w #[] 0 (Nat.le_refl _) (Nat.zero_le _) rfl
  have hs := hsh.alloc hB (.cells #[] 25)
  have hMx : 20 ≤ maxLen := by decide
  clear hm h0 hsh
  go_enter Tryd.func14, Tryd.ntmps14
  go_wp2_with (at_builtin; refine wpList_append_shows _ rfl _ _ 22 rfl w.heap.size 25 iV _ 5 80 Tryd.underlying22 hiV hzV hsV hbV rfl (by decide) _ _ _ rfl hown B _ m _ (L.flatMap VT.cells) rfl hs hone (by omega) (by omega) (by simp) ?_; intro A7 c7 w7 hown7 hgrow7 hb7)
  have ho : w7.ownsRow w.heap.size 25 5 (.slice A7 m c7) m (L.flatMap VT.cells) := by simpa using hown7
  have hbx : Below w.heap.size w w7 := ((Below.refl _ _).alloc (Nat.le_refl _) _).trans hb7
  clear hown7
  go_wp2
  go_ret
  exact ⟨A7, c7, by first | rfl | simp, Lib.hid (Shows.own ho), Lib.hid (own_noneS ho), own_capS ho, hbx⟩
/-- A value among values in order. -/
theorem stand_pure {L : List VT} (h : Rise L) {i : Nat} {v : VT} (hv : L[i]? = some v) : befN v L ≤ i ∧ i < uptN v L ∧ uptN v L = befN v L + L.countP (fun x => decide (cmpV x v = 0)) := by
  obtain ⟨hi, he⟩ := List.getElem?_eq_some_iff.1 hv
  have hp := List.pairwise_iff_getElem.1 h
  refine ⟨?_, ?_, ?_⟩
  · unfold befN
    conv => lhs; rw [← List.take_append_drop i L]
    rw [List.countP_append]
    have h1 : (L.take i).countP (fun x => decide (cmpV x v < 0)) ≤ i := Nat.le_trans List.countP_le_length (by simp; omega)
    have h2 : (L.drop i).countP (fun x => decide (cmpV x v < 0)) = 0 := by
      rw [List.countP_eq_zero]
      intro x hx
      obtain ⟨j, hj, rfl⟩ := List.getElem_of_mem hx
      simp only [List.getElem_drop, decide_eq_true_eq]
      by_cases hj0 : j = 0
      · subst hj0
        simp only [Nat.add_zero]
        rw [he, cmpV_is.self]
        decide
      · have := hp i (i + j) hi (by simp at hj; omega) (by omega)
        rw [he] at this
        have ht := cmpV_is.turn v (L[i + j]'(by simp at hj; omega))
        omega
    omega
  · unfold uptN
    conv => rhs; rw [← List.take_append_drop (i + 1) L]
    rw [List.countP_append]
    have h1 : (L.take (i + 1)).countP (fun x => decide (cmpV x v ≤ 0)) = (L.take (i + 1)).length := by
      rw [List.countP_eq_length]
      intro x hx
      obtain ⟨j, hj, rfl⟩ := List.getElem_of_mem hx
      simp only [List.getElem_take, decide_eq_true_eq]
      have hj' : j < i + 1 := by simp at hj; omega
      by_cases hji : j = i
      · subst hji
        rw [he, cmpV_is.self]
        exact Int.le_refl _
      · have := hp j i (by omega) hi (by omega)
        rwa [he] at this
    have h2 : (L.take (i + 1)).length = i + 1 := by simp; omega
    omega
  · unfold uptN befN
    clear h hp hv he hi
    induction L with
    | nil => rfl
    | cons x l ih =>
      simp only [List.countP_cons, ih]
      rcases cmpV_is.ones x v with h | h | h <;> rw [h] <;> simp <;> omega
theorem cnt_same {v y : VT} {w w' : World} {B B' : Nat} (hT : Lie w B v) (hU : Lie w' B' y) (h1 : v.ok = true) (h2 : y.ok = true) : sameR v y = decide (cmpV y v = 0) := by
  unfold sameR
  rw [h1, h2]
  have h := cmpV_zero hT hU h1 h2
  have ht := cmpV_is.turn v y
  by_cases hz : cmpV v y = 0
  · rw [(sameV_iff _ _).2 (h.1 hz), ht, hz]; rfl
  · have : sameV v y = false := bool_no (sameV_iff _ _) (fun e => hz (h.2 e))
    rw [this, ht]
    simp
    omega
end Go.Proofs.YtndolgbbochpjaaDoor
/-
  Layer 7, the reference: Ahead and kind.
-/
namespace Go.Proofs.YtndolgbbochpjaaDoor
open Go.RowKit
set_option linter.unusedVariables false

theorem sget (s : ByteArray) (k : Nat) (h : k < s.size) : s.data.toList[k]'(by simpa using h) = s[k]'h := rfl
theorem less_step {s t : ByteArray} {k : Nat} (h1 : k < s.size) (h2 : k < t.size) : Op.bytesLess (s.data.toList.drop k) (t.data.toList.drop k) = if (s[k]'h1).toNat < (t[k]'h2).toNat then true else if (s[k]'h1).toNat = (t[k]'h2).toNat then Op.bytesLess (s.data.toList.drop (k + 1)) (t.data.toList.drop (k + 1)) else false := by
  rw [List.drop_eq_getElem_cons (show k < s.data.toList.length by simpa using h1), List.drop_eq_getElem_cons (show k < t.data.toList.length by simpa using h2), less_cons]
  rfl
theorem less_end {s t : ByteArray} {k : Nat} (h1 : k ≤ s.size) (h2 : k ≤ t.size) (h3 : k = s.size ∨ k = t.size) : Op.bytesLess (s.data.toList.drop k) (t.data.toList.drop k) = decide (s.size < t.size) := by
  have a1 : (s.data.toList.drop k).length = s.size - k := by simp
  have a2 : (t.data.toList.drop k).length = t.size - k := by simp
  generalize s.data.toList.drop k = a at *
  generalize t.data.toList.drop k = b at *
  cases b with
  | nil => rw [less_nil]; simp at a2; symm; simp; omega
  | cons y b =>
    cases a with
    | nil => simp at a1 a2; show true = _; symm; simp; omega
    | cons x a => simp at a1 a2; omega
set_option maxRecDepth 20000 in
set_option maxHeartbeats 1000000 in
theorem ahead_any (s t : ByteArray) (w : World) (hs : s.size ≤ 1048576) : Calls Tryd.prog 43 #[.string s, .string t] w fun e w' => e = .returned (.bool (vless s t)) ∧ Fr w w' := by
  have H0 := Lib.hid (show vless s t = Op.bytesLess (s.data.toList.drop 0) (t.data.toList.drop 0) by unfold vless; rw [ByteArray.toList_eq, ByteArray.toList_eq]; rfl)
  generalize vless s t = r at *
  go_enter Tryd.func43, Tryd.ntmps43
  go_wp2
  go_loopw [5] (fun i wr => ∃ k : Nat, k ≤ s.size ∧ k ≤ t.size ∧ i = .int .i64 k ∧ Hid (r = Op.bytesLess (s.data.toList.drop k) (t.data.toList.drop k)) ∧ Fr w wr) (fun i _ => s.size - (intOf i).toNat)
  case atStart => exact ⟨0, Nat.zero_le _, Nat.zero_le _, rfl, H0, Fr.refl _⟩
  case round =>
    obtain ⟨k, hk1, hk2, rfl, HK, hbr⟩ := hrel
    by_cases h1 : k < s.size
    · have h1' : (k : Int) < (s.size : Int) := by omega
      have hk0 : (0 : Int) ≤ (k : Int) := by omega
      by_cases h2 : k < t.size
      · have h2' : (k : Int) < (t.size : Int) := by omega
        have Hst := Lib.hid (HK.out.trans (less_step h1 h2))
        generalize hx : (s[k]'h1).toNat = x at *
        generalize hy : (t[k]'h2).toNat = y at *
        clear HK
        by_cases hxy : x = y
        · subst hxy
          have Hn := Lib.hid (Hst.out.trans (by rw [if_neg (Nat.lt_irrefl _), if_pos rfl]))
          clear Hst
          go_wp2
          go_quiet (fail)
          go_wp2
          go_roundw
          case rel => exact ⟨k + 1, by omega, by omega, by go_num, Hn, hbr.drewN _⟩
          case measure => simp [intOf]; omega
        · have Hn := Lib.hid (show r = decide (x < y) from Hst.out.trans (by
            by_cases h : x < y
            · rw [if_pos h]; simp [h]
            · rw [if_neg h, if_neg hxy]; simp [h]))
          clear Hst
          go_wp2
          go_quiet (fail)
          go_wp2
          go_quiet (fail)
          go_wp2
          go_ret
          exact ⟨by rw [Hn.out]; simp, (hbr.drewN _).drewN _⟩
      · have Hn := Lib.hid (HK.out.trans (less_end hk1 hk2 (by omega)))
        have h2' : ¬ (k : Int) < (t.size : Int) := by omega
        clear HK
        go_wp2
        go_ret
        exact ⟨by rw [Hn.out]; simp, hbr⟩
    · have Hn := Lib.hid (HK.out.trans (less_end hk1 hk2 (by omega)))
      have h1' : ¬ (k : Int) < (s.size : Int) := by omega
      clear HK
      go_wp2
      go_ret
      exact ⟨by rw [Hn.out]; simp, hbr⟩
set_option maxRecDepth 20000 in
theorem kind_any (T : VT) (w : World) (hf : T.fit = true) : Calls Tryd.prog 42 #[T.agg] w fun e w' => e = .returned (.int .i64 (rankV T)) ∧ Fr w w' := by
  obtain ⟨h1, h2, h3⟩ := fit_kn hf
  clear hf
  obtain ⟨k, n, s, cA, cn, cc, kA, kn, kc, keys, kids⟩ := T
  have hb := (Fr.refl w).alloc (.cells #[.int .i64 k, .int .i64 n, .string s, .slice cA cn cc, .slice kA kn kc] 25)
  have HV := VFive.new w (.int .i64 k) (.int .i64 n) (.string s) (.slice cA cn cc) (.slice kA kn kc) 25 w.heap.size rfl
  simp only [VT.k, VT.n] at h1 h2 h3
  simp only [VT.agg]
  obtain ⟨⟨v0, v1, v2, v3, v4⟩, -⟩ := HV
  by_cases hk2 : k = 2
  · subst hk2
    rw [show rankV (.mk 2 n s cA cn cc kA kn kc keys kids) = 2 + n from if_pos rfl]
    have hw : IntKind.i64.wrap (2 + n) = 2 + n := by rw [IntKind.wrap_i64]; have := h3 rfl; omega
    have hw' : IntKind.i64.wrap n = n := by rw [IntKind.wrap_i64]; have := h3 rfl; omega
    clear h1 h2 h3
    go_enter Tryd.func42, Tryd.ntmps42
    go_wp2
    go_ret
    exact ⟨by first | rfl | simp [hw], hb⟩
  · rw [show rankV (.mk k n s cA cn cc kA kn kc keys kids) = (if 2 < k then k + 1 else k) from if_neg hk2]
    clear h3
    have hk : k = 1 ∨ k = 3 ∨ k = 4 ∨ k = 5 ∨ k = 6 := by omega
    rcases hk with rfl | rfl | rfl | rfl | rfl
    all_goals
      clear h1 h2 hk2
      go_enter Tryd.func42, Tryd.ntmps42
      go_wp2
      go_ret
      exact ⟨rfl, hb⟩
end Go.Proofs.YtndolgbbochpjaaDoor
