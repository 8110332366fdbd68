import Derived.Test.YtndolgbbochpjaaDoorGah
import Derived.Test.YtndolgbbochpjaaDoorGae
import Derived.Test.YtndolgbbochpjaaDoorGaf
/-
  Layer 7: Front.
-/
namespace Go.Proofs.YtndolgbbochpjaaDoor
open Go.RowKit
set_option linter.unusedVariables false

/-- The front of a value. -/
def frontV (T : VT) (m : Nat) : VT :=
  match T with
  | .mk k n s cA cn cc kA kn kc keys kids => if k = 5 ∧ m < cn then .mk 5 0 ⟨#[]⟩ cA m m none 0 0 [] (kids.take m) else .mk k n s cA cn cc kA kn kc keys kids
def FrQ (T : VT) (m : Int) (X : VT) (E : Int) : Prop := (m < 0 ∧ X = scV 0 0 ⟨#[]⟩ ∧ E = 2) ∨ (0 ≤ m ∧ X = frontV T m.toNat ∧ E = 0)
set_option maxRecDepth 20000 in
set_option maxHeartbeats 1000000 in
theorem frontW_any (T : VT) (m : Int) (B p q : Nat) (w : World) (hL : Lie w B T) (hB : B ≤ w.heap.size) (hp : w.cell? ⟨p, 0, none⟩ = some (.int .i64 m)) (hq : ∀ i v, T.cells[i]? = some v → w.cell? ⟨q, i, none⟩ = some v) :
    Calls Tryd.prog 45 #[.pointer (some ⟨p, 0, none⟩), .pointer (some ⟨q, 0, none⟩)] w fun e w' => ∃ X E, e = .returned (.tuple #[X.agg, .int .i64 E]) ∧ FrQ T m X E ∧ Below w.heap.size w w' := by
  obtain ⟨k, n, s, cA, cn, cc, kA, kn, kc, keys, kids⟩ := T
  have hb0 := bel_alloc (Below.refl w.heap.size w) (.cells #[.int .i64 0, .int .i64 0, .string ⟨#[]⟩, .slice none 0 0, .slice none 0 0] 25)
  have HV := VFive.new w (.int .i64 0) (.int .i64 0) (.string ⟨#[]⟩) (.slice none 0 0) (.slice none 0 0) 25 w.heap.size rfl
  have hpl := World.block_lt_of_cell? w _ hp
  have hql := World.block_lt_of_cell? w _ (hq 0 _ rfl)
  have k0 : ∀ o, (w.alloc (.cells #[.int .i64 0, .int .i64 0, .string ⟨#[]⟩, .slice none 0 0, .slice none 0 0] 25)).cell? ⟨q, o, none⟩ = w.cell? ⟨q, o, none⟩ := fun o => World.cell?_alloc_lt w _ ⟨q, o, none⟩ hql
  have p0 : (w.alloc (.cells #[.int .i64 0, .int .i64 0, .string ⟨#[]⟩, .slice none 0 0, .slice none 0 0] 25)).cell? ⟨p, 0, none⟩ = some (.int .i64 m) := (World.cell?_alloc_lt w _ ⟨p, 0, none⟩ hpl).trans hp
  have v0 := (k0 0).trans (hq 0 _ rfl)
  have v1 := (k0 1).trans (hq 1 _ rfl)
  have v2 := (k0 2).trans (hq 2 _ rfl)
  have v3 := (k0 3).trans (hq 3 _ rfl)
  have v4 := (k0 4).trans (hq 4 _ rfl)
  have hcn : 0 < cn → cA ≠ none := by
    cases hL with
    | mk a1 a2 a3 a4 =>
      intro h0 e
      subst e
      obtain ⟨b, off, x, h, -⟩ := kids_at a1 h0
      cases h
  have hcc : cn ≤ cc := by
    cases hL with
    | mk a1 a2 a3 a4 => obtain ⟨_, _, _, hh, _⟩ := a3; exact hh
  obtain ⟨⟨y0, y1, y2, y3, y4⟩, f0, f1, f2, f3, f4⟩ := HV
  clear hL hq k0 hp
  by_cases hm : m < 0
  · have HQ := Lib.hid (show FrQ (.mk k n s cA cn cc kA kn kc keys kids) m (scV 0 0 ⟨#[]⟩) 2 from .inl ⟨hm, rfl, rfl⟩)
    have hm' : (m < 0) = True := by simp [hm]
    clear hcn hcc
    go_enter Tryd.func45, Tryd.ntmps45
    go_wp2
    refine bodyPost_ret (v := .tuple #[.agg #[.int .i64 0, .int .i64 0, .string ⟨#[]⟩, .slice none 0 0, .slice none 0 0], .int .i64 2]) ?_ rfl ⟨scV 0 0 ⟨#[]⟩, 2, rfl, HQ.out, bel_alloc (Below.refl _ _) _⟩
    simp [results, Tryd.results45, go_sem, *]
  · obtain ⟨j, rfl⟩ : ∃ j : Nat, m = (j : Int) := ⟨m.toNat, by omega⟩
    have hm' : ((j : Int) < 0) = False := by simp
    by_cases hf : k = 5 ∧ j < cn
    · have HQ := Lib.hid (show FrQ (.mk k n s cA cn cc kA kn kc keys kids) j (.mk 5 0 ⟨#[]⟩ cA j j none 0 0 [] (kids.take j)) 0 from .inr ⟨by omega, by rw [Int.toNat_natCast]; exact (if_pos hf).symm, rfl⟩)
      obtain ⟨rfl, hjc⟩ := hf
      obtain ⟨a, rfl⟩ : ∃ a, cA = some a := by
        cases cA with
        | none => exact absurd rfl (hcn (by omega))
        | some a => exact ⟨a, rfl⟩
      have h1 : ((cn : Int) ≤ (j : Int)) = False := by simp; omega
      have h2 : (0 : Int) ≤ (j : Int) := by omega
      have h3 : (j : Int) ≤ (cc : Int) := by omega
      have h4 : (j : Int) ≤ (cn : Int) := by omega
      clear hcn hm
      go_enter Tryd.func45, Tryd.ntmps45
      go_wp2
      refine bodyPost_ret (v := .tuple #[.agg #[.int .i64 5, .int .i64 0, .string ⟨#[]⟩, .slice (some a) j j, .slice none 0 0], .int .i64 0]) ?_ rfl ⟨_, 0, rfl, HQ.out, bel_alloc (Below.refl _ _) _⟩
      simp [results, Tryd.results45, go_sem, *]
    · have HQ := Lib.hid (show FrQ (.mk k n s cA cn cc kA kn kc keys kids) j (.mk k n s cA cn cc kA kn kc keys kids) 0 from .inr ⟨by omega, by rw [Int.toNat_natCast]; exact (if_neg hf).symm, rfl⟩)
      by_cases hk5 : k = 5
      · subst hk5
        have h1 : ((cn : Int) ≤ (j : Int)) = True := by simp; omega
        clear hcn hm hf
        go_enter Tryd.func45, Tryd.ntmps45
        go_wp2
        refine bodyPost_ret (v := .tuple #[.agg #[.int .i64 5, .int .i64 n, .string s, .slice cA cn cc, .slice kA kn kc], .int .i64 0]) ?_ rfl ⟨_, 0, rfl, HQ.out, bel_alloc (Below.refl _ _) _⟩
        simp [results, Tryd.results45, go_sem, *]
      · clear hcn hm hf
        go_enter Tryd.func45, Tryd.ntmps45
        go_wp2
        refine bodyPost_ret (v := .tuple #[.agg #[.int .i64 k, .int .i64 n, .string s, .slice cA cn cc, .slice kA kn kc], .int .i64 0]) ?_ rfl ⟨_, 0, rfl, HQ.out, bel_alloc (Below.refl _ _) _⟩
        simp [results, Tryd.results45, go_sem, *]
def FrP (T : VT) (m : Int) (X : VT) (E : Int) : Prop := (T.ok = false ∧ X = scV 0 0 ⟨#[]⟩ ∧ E = 140) ∨ (T.ok = true ∧ FrQ T m X E)
set_option maxRecDepth 20000 in
set_option maxHeartbeats 1000000 in
theorem frontT_any (T : VT) (m : Int) (B : Nat) (w : World) (hL : Lie w B T) (hB : B ≤ w.heap.size) (htab : UTab w) (hst : STab w) :
    Calls Tryd.prog 21 #[T.agg, .int .i64 m] w fun e w' => ∃ X E, e = .returned (.tuple #[X.agg, .int .i64 E]) ∧ Hid (FrP T m X E) ∧ Below w.heap.size w w' := by
  obtain ⟨k, n, s, cA, cn, cc, kA, kn, kc, keys, kids⟩ := T
  have hb := bel_alloc (bel_alloc (bel_alloc (bel_alloc (bel_alloc (Below.refl w.heap.size w) (.cells #[.int .i64 k, .int .i64 n, .string s, .slice cA cn cc, .slice kA kn kc] 25)) (.cells #[.int .i64 m] 3)) (.cells #[.int .i64 0, .int .i64 0, .string ⟨#[]⟩, .slice none 0 0, .slice none 0 0] 25)) (.cells #[.int .i64 k, .int .i64 n, .string s, .slice cA cn cc, .slice kA kn kc] 25)) (.cells #[.slice (some ⟨w.heap.size + 3, 0, none⟩) 1 1] 22)
  have hsz : (((((w.alloc (.cells #[.int .i64 k, .int .i64 n, .string s, .slice cA cn cc, .slice kA kn kc] 25)).alloc (.cells #[.int .i64 m] 3)).alloc (.cells #[.int .i64 0, .int .i64 0, .string ⟨#[]⟩, .slice none 0 0, .slice none 0 0] 25)).alloc (.cells #[.int .i64 k, .int .i64 n, .string s, .slice cA cn cc, .slice kA kn kc] 25)).alloc (.cells #[.slice (some ⟨w.heap.size + 3, 0, none⟩) 1 1] 22)).heap.size = w.heap.size + 5 := by simp
  have c0 := ((((VFive.new w (.int .i64 k) (.int .i64 n) (.string s) (.slice cA cn cc) (.slice kA kn kc) 25 w.heap.size rfl).alloc (.cells #[.int .i64 m] 3)).alloc (.cells #[.int .i64 0, .int .i64 0, .string ⟨#[]⟩, .slice none 0 0, .slice none 0 0] 25)).alloc (.cells #[.int .i64 k, .int .i64 n, .string s, .slice cA cn cc, .slice kA kn kc] 25)).alloc (.cells #[.slice (some ⟨w.heap.size + 3, 0, none⟩) 1 1] 22)
  have c1 : (((((w.alloc (.cells #[.int .i64 k, .int .i64 n, .string s, .slice cA cn cc, .slice kA kn kc] 25)).alloc (.cells #[.int .i64 m] 3)).alloc (.cells #[.int .i64 0, .int .i64 0, .string ⟨#[]⟩, .slice none 0 0, .slice none 0 0] 25)).alloc (.cells #[.int .i64 k, .int .i64 n, .string s, .slice cA cn cc, .slice kA kn kc] 25)).alloc (.cells #[.slice (some ⟨w.heap.size + 3, 0, none⟩) 1 1] 22)).cell? ⟨w.heap.size + 1, 0, none⟩ = some (.int .i64 m) := by
    have := ((((Box.new (w.alloc (.cells #[.int .i64 k, .int .i64 n, .string s, .slice cA cn cc, .slice kA kn kc] 25)) #[.int .i64 m] 3).alloc (.cells #[.int .i64 0, .int .i64 0, .string ⟨#[]⟩, .slice none 0 0, .slice none 0 0] 25)).alloc (.cells #[.int .i64 k, .int .i64 n, .string s, .slice cA cn cc, .slice kA kn kc] 25)).alloc (.cells #[.slice (some ⟨w.heap.size + 3, 0, none⟩) 1 1] 22) 0 _ rfl).1
    have e : (w.alloc (.cells #[.int .i64 k, .int .i64 n, .string s, .slice cA cn cc, .slice kA kn kc] 25)).heap.size = w.heap.size + 1 := by simp
    rwa [e] at this
  have c2 := ((VFive.new ((w.alloc (.cells #[.int .i64 k, .int .i64 n, .string s, .slice cA cn cc, .slice kA kn kc] 25)).alloc (.cells #[.int .i64 m] 3)) (.int .i64 0) (.int .i64 0) (.string ⟨#[]⟩) (.slice none 0 0) (.slice none 0 0) 25 (w.heap.size + 2) (by simp)).alloc (.cells #[.int .i64 k, .int .i64 n, .string s, .slice cA cn cc, .slice kA kn kc] 25)).alloc (.cells #[.slice (some ⟨w.heap.size + 3, 0, none⟩) 1 1] 22)
  have c3 := (VFive.new (((w.alloc (.cells #[.int .i64 k, .int .i64 n, .string s, .slice cA cn cc, .slice kA kn kc] 25)).alloc (.cells #[.int .i64 m] 3)).alloc (.cells #[.int .i64 0, .int .i64 0, .string ⟨#[]⟩, .slice none 0 0, .slice none 0 0] 25)) (.int .i64 k) (.int .i64 n) (.string s) (.slice cA cn cc) (.slice kA kn kc) 25 (w.heap.size + 3) (by simp)).alloc (.cells #[.slice (some ⟨w.heap.size + 3, 0, none⟩) 1 1] 22)
  have c4 : (((((w.alloc (.cells #[.int .i64 k, .int .i64 n, .string s, .slice cA cn cc, .slice kA kn kc] 25)).alloc (.cells #[.int .i64 m] 3)).alloc (.cells #[.int .i64 0, .int .i64 0, .string ⟨#[]⟩, .slice none 0 0, .slice none 0 0] 25)).alloc (.cells #[.int .i64 k, .int .i64 n, .string s, .slice cA cn cc, .slice kA kn kc] 25)).alloc (.cells #[.slice (some ⟨w.heap.size + 3, 0, none⟩) 1 1] 22)).cell? ⟨w.heap.size + 4, 0, none⟩ = some (.slice (some ⟨w.heap.size + 3, 0, none⟩) 1 1) := by
    have := (Box.new ((((w.alloc (.cells #[.int .i64 k, .int .i64 n, .string s, .slice cA cn cc, .slice kA kn kc] 25)).alloc (.cells #[.int .i64 m] 3)).alloc (.cells #[.int .i64 0, .int .i64 0, .string ⟨#[]⟩, .slice none 0 0, .slice none 0 0] 25)).alloc (.cells #[.int .i64 k, .int .i64 n, .string s, .slice cA cn cc, .slice kA kn kc] 25)) #[.slice (some ⟨w.heap.size + 3, 0, none⟩) 1 1] 22 0 _ rfl).1
    have e : ((((w.alloc (.cells #[.int .i64 k, .int .i64 n, .string s, .slice cA cn cc, .slice kA kn kc] 25)).alloc (.cells #[.int .i64 m] 3)).alloc (.cells #[.int .i64 0, .int .i64 0, .string ⟨#[]⟩, .slice none 0 0, .slice none 0 0] 25)).alloc (.cells #[.int .i64 k, .int .i64 n, .string s, .slice cA cn cc, .slice kA kn kc] 25)).heap.size = w.heap.size + 4 := by simp
    rwa [e] at this
  have hrow := one_row (B := (((((w.alloc (.cells #[.int .i64 k, .int .i64 n, .string s, .slice cA cn cc, .slice kA kn kc] 25)).alloc (.cells #[.int .i64 m] 3)).alloc (.cells #[.int .i64 0, .int .i64 0, .string ⟨#[]⟩, .slice none 0 0, .slice none 0 0] 25)).alloc (.cells #[.int .i64 k, .int .i64 n, .string s, .slice cA cn cc, .slice kA kn kc] 25)).alloc (.cells #[.slice (some ⟨w.heap.size + 3, 0, none⟩) 1 1] 22)).heap.size) (A := some ⟨w.heap.size + 3, 0, none⟩) (n := 1) (c := 1) (L := [.mk k n s cA cn cc kA kn kc keys kids])
    ⟨rfl, fun _ => ⟨w.heap.size + 3, 0, rfl, by rw [hsz]; omega, fun i v hv => by rw [Nat.zero_add]; exact five_cells c3 i v (by simpa [VT.cells] using hv)⟩⟩ (fun x hx => by rw [List.mem_singleton] at hx; subst hx; exact (hL.later (hb.mono hB)).more (Nat.le_trans hB hb.size)) (by omega) c4 (by rw [hsz]; omega)
  have hck := chkV_any (w.heap.size + 1) w.heap.size (FrQ (.mk k n s cA cn cc kA kn kc keys kids) m) _ 1 1 _ _ (((((w.alloc (.cells #[.int .i64 k, .int .i64 n, .string s, .slice cA cn cc, .slice kA kn kc] 25)).alloc (.cells #[.int .i64 m] 3)).alloc (.cells #[.int .i64 0, .int .i64 0, .string ⟨#[]⟩, .slice none 0 0, .slice none 0 0] 25)).alloc (.cells #[.int .i64 k, .int .i64 n, .string s, .slice cA cn cc, .slice kA kn kc] 25)).alloc (.cells #[.slice (some ⟨w.heap.size + 3, 0, none⟩) 1 1] 22)) hrow (Nat.le_refl _) (by decide) (htab.below hb htab.lt) (hst.below hb hst.lt) (fun hok W hbW => by
    have hb2 := bel_next hb hbW
    have hlt : w.heap.size + 1 < (((((w.alloc (.cells #[.int .i64 k, .int .i64 n, .string s, .slice cA cn cc, .slice kA kn kc] 25)).alloc (.cells #[.int .i64 m] 3)).alloc (.cells #[.int .i64 0, .int .i64 0, .string ⟨#[]⟩, .slice none 0 0, .slice none 0 0] 25)).alloc (.cells #[.int .i64 k, .int .i64 n, .string s, .slice cA cn cc, .slice kA kn kc] 25)).alloc (.cells #[.slice (some ⟨w.heap.size + 3, 0, none⟩) 1 1] 22)).heap.size := by rw [hsz]; omega
    exact frontW_any _ m B (w.heap.size + 1) w.heap.size W (hL.later (hb2.mono hB)) (Nat.le_trans hB hb2.size) ((hbW.cell (p := ⟨w.heap.size + 1, 0, none⟩) hlt).trans c1) (five_cells (c0.later hbW)))
  have HO := Lib.hid (by simp [okR] : okR [(⟨some ⟨w.heap.size + 3, 0, none⟩, 1, 1, [.mk k n s cA cn cc kA kn kc keys kids]⟩ : RowT)] = (VT.mk k n s cA cn cc kA kn kc keys kids).ok)
  have HC2 := Lib.hid c2
  obtain ⟨⟨v0, v1, v2, v3, v4⟩, -⟩ := c0
  simp only [VT.agg]
  clear hL htab hst hrow c1 c2 c3 c4 hsz
  go_enter Tryd.func21, Tryd.ntmps21
  go_wp2_with fail
  refine hck.mono ?_
  rintro e w1 ⟨⟨h1, rfl⟩ | ⟨h1, X, E, rfl, hq⟩, hb1⟩
  · rw [HO.out] at h1
    have h2 := Lib.hid (show FrP (.mk k n s cA cn cc kA kn kc keys kids) m (scV 0 0 ⟨#[]⟩) 140 from .inl ⟨h1, rfl, rfl⟩)
    obtain ⟨⟨y0, y1, y2, y3, y4⟩, f0, f1, f2, f3, f4⟩ := HC2.out.later hb1
    clear hck h1 v0 v1 v2 v3 v4 HO
    go_wp2
    refine bodyPost_ret (v := .tuple #[.agg #[.int .i64 0, .int .i64 0, .string ⟨#[]⟩, .slice none 0 0, .slice none 0 0], .int .i64 140]) ?_ rfl ⟨scV 0 0 ⟨#[]⟩, 140, rfl, h2, vbelow_set5 (bel_next hb hb1) (by omega)⟩
    simp [results, Tryd.results21, go_sem, *]
  · rw [HO.out] at h1
    have h2 := Lib.hid (show FrP (.mk k n s cA cn cc kA kn kc keys kids) m X E from .inr ⟨h1, hq⟩)
    obtain ⟨⟨y0, y1, y2, y3, y4⟩, f0, f1, f2, f3, f4⟩ := HC2.out.later hb1
    obtain ⟨k2, n2, s2, cA2, cn2, cc2, kA2, kn2, kc2, keys2, kids2⟩ := X
    simp only [VT.agg]
    clear hck h1 hq v0 v1 v2 v3 v4 HO
    go_wp2
    refine bodyPost_ret (v := .tuple #[.agg #[.int .i64 k2, .int .i64 n2, .string s2, .slice cA2 cn2 cc2, .slice kA2 kn2 kc2], .int .i64 E]) ?_ rfl ⟨.mk k2 n2 s2 cA2 cn2 cc2 kA2 kn2 kc2 keys2 kids2, E, rfl, h2, vbelow_set5 (bel_next hb hb1) (by omega)⟩
    simp [results, Tryd.results21, go_sem, *]
end Go.Proofs.YtndolgbbochpjaaDoor
/-
  Layer 7: slices.IsSortedFunc by compare.
-/
namespace Go.Proofs.YtndolgbbochpjaaDoor
open Go.RowKit
set_option linter.unusedVariables false

theorem rise_adj : ∀ L : List VT, (∀ t (h : t + 1 < L.length), cmpV L[t] L[t + 1] ≤ 0) → Rise L
  | [], _ => .nil
  | [x], _ => .cons (by simp) .nil
  | x :: y :: l, h => by
    have ih := rise_adj (y :: l) (fun t ht => h (t + 1) (by simp at ht ⊢; omega))
    have h0 : cmpV x y ≤ 0 := h 0 (by simp)
    refine .cons (fun z hz => ?_) ih
    rcases List.mem_cons.1 hz with rfl | hz
    · exact h0
    · have := List.rel_of_pairwise_cons ih hz
      exact (cmpV_is.tr x y z h0 this).1
theorem rise_at {L : List VT} (h : Rise L) (t : Nat) (ht : t + 1 < L.length) : cmpV L[t] L[t + 1] ≤ 0 := (List.pairwise_iff_getElem.1 h) t (t + 1) _ ht (Nat.lt_succ_self _)
/-- Says whether the values are in order. -/
def SrtB (L : List VT) (w : World) (e : Ending) (w' : World) : Prop := ∃ b, e = .returned (.bool b) ∧ (b = true ↔ Rise L) ∧ Fr w w'
theorem srtB_mk {L : List VT} {w : World} {w' : World} (b : Bool) {v : Value} (hv : v = .bool b) (h : b = true ↔ Rise L) (hf : Fr w w') : SrtB L w (.returned v) w' := ⟨b, by rw [hv], h, hf⟩
set_option maxRecDepth 20000 in
set_option maxHeartbeats 1000000 in
theorem sorted_any (A : Option Addr) (n c B : Nat) (L : List VT) (w : World) (h : Shows w B 5 A n (L.flatMap VT.cells)) (hL : ∀ x ∈ L, Lie w B x ∧ x.ok = true) (hB : B ≤ w.heap.size) (hn : n ≤ 1000) (hr : RTab w) :
    Calls Tryd.prog 40 #[.slice A n c, .func (.func 33) #[] #[]] w fun e w' => SrtB L w e w' := by
  have hlen := kids_len h
  rcases Nat.eq_zero_or_pos n with rfl | hpos
  · obtain rfl : L = [] := List.eq_nil_of_length_eq_zero hlen
    clear h hL hr
    go_enter Tryd.func40, Tryd.ntmps40
    go_wp2
    go_loopw [5] (fun i wr => i = .int .i64 (-1) ∧ wr = w) (fun _ _ => 0)
    case atStart => exact ⟨by go_num, rfl⟩
    case round =>
      obtain ⟨rfl, rfl⟩ := hrel
      go_wp2
      go_ret
      exact srtB_mk true rfl ⟨fun _ => .nil, fun _ => rfl⟩ (Fr.refl _)
  · obtain ⟨N, hN⟩ : ∃ N, N = n - 1 := ⟨_, rfl⟩
    have hw0 : IntKind.i64.wrap ((n : Int) - 1) = (N : Int) := by rw [IntKind.wrap_i64]; omega
    have Hls := Lib.hid hlen
    have HS := Lib.hid h
    have HLi := Lib.hid hL
    have Hr := Lib.hid hr
    have HNn := Lib.hid (show N + 1 = n by omega)
    clear h hL hr hlen hN
    go_enter Tryd.func40, Tryd.ntmps40
    go_wp2
    go_loopw [5] (fun i wr => ∃ u : Nat, i = .int .i64 u ∧ u ≤ N ∧ Hid (∀ t (ht : t + 1 < L.length), u ≤ t → cmpV L[t] L[t + 1] ≤ 0) ∧ Fr w wr) (fun i _ => (intOf i).toNat)
    case atStart => exact ⟨N, by go_num, Nat.le_refl _, Lib.hid (fun t ht hu => by have := HNn.out; have := Hls.out; omega), Fr.refl _⟩
    case round =>
      obtain ⟨u, rfl, huN, HU, hbr⟩ := hrel
      by_cases hu0 : u = 0
      · subst hu0
        have Hy := Lib.hid (show Rise L from rise_adj L (fun t ht => HU.out t ht (Nat.zero_le _)))
        clear HU
        go_wp2
        go_ret
        exact srtB_mk true rfl ⟨fun _ => Hy.out, fun _ => rfl⟩ hbr
      · obtain ⟨v, hv⟩ : ∃ v, v = u - 1 := ⟨_, rfl⟩
        have hvi : IntKind.i64.wrap ((u : Int) - 1) = (v : Int) := by rw [IntKind.wrap_i64]; have := HNn.out; omega
        have hun : u < n := by have := HNn.out; omega
        have hvn : v < n := by omega
        have hun' : (u : Int) < (n : Int) := by omega
        have hvn' : (v : Int) < (n : Int) := by omega
        have hu0' : (0 : Int) < (u : Int) := by omega
        have hu0'' : (0 : Int) ≤ (u : Int) := by omega
        have hv0' : (0 : Int) ≤ (v : Int) := by omega
        have hul : u < L.length := by have := Hls.out; omega
        have hvl : v < L.length := by have := Hls.out; omega
        have hx := List.getElem?_eq_getElem hul
        have hy := List.getElem?_eq_getElem hvl
        obtain ⟨b, off, hA1, hx5⟩ := kid_cells HS.out (Below.refl w.heap.size w) hB hx
        obtain ⟨b', off', hA2, hy5⟩ := kid_cells HS.out (Below.refl w.heap.size w) hB hy
        subst hA1
        injection hA2 with hA2
        injection hA2 with e1 e2
        subst e1 e2
        have Hc0 := Lib.hid (fun W (h : Fr w W) => compareV_any L[u] L[v] B W ((HLi.out _ (List.getElem_mem hul)).1.later (h.1.mono hB)) ((HLi.out _ (List.getElem_mem hvl)).1.later (h.1.mono hB)) (HLi.out _ (List.getElem_mem hul)).2 (HLi.out _ (List.getElem_mem hvl)).2 (Nat.le_trans hB h.1.size) (Hr.out.fr h))
        have Hno := Lib.hid (fun (hlt : cmpV L[u] L[v] < 0) (hR : Rise L) => show False by
          have h1 := rise_at hR v (by omega)
          have e : v + 1 = u := by omega
          simp only [e] at h1
          have := cmpV_is.turn L[v] L[u]
          omega)
        have Hyes := Lib.hid (fun (hge : ¬ cmpV L[u] L[v] < 0) => (show Hid (∀ t (ht : t + 1 < L.length), v ≤ t → cmpV L[t] L[t + 1] ≤ 0) from Lib.hid fun t ht hvt => by
          by_cases htv : t = v
          · subst htv
            have e : t + 1 = u := by omega
            simp only [e]
            have := cmpV_is.turn L[u] L[t]
            omega
          · exact HU.out t ht (by omega)))
        have hvN : v ≤ N := by omega
        have Hvu := Lib.hid (show v < u by omega)
        clear hv HU hx hy
        generalize L[u] = x at *
        generalize L[v] = y at *
        generalize cmpV x y = r at *
        obtain ⟨kx, nx, sx, cAx, cnx, ccx, kAx, knx, kcx, keysx, kidsx⟩ := x
        obtain ⟨ky, ny, sy, cAy, cny, ccy, kAy, kny, kcy, keysy, kidsy⟩ := y
        have x0 : ∀ W, Fr w W → W.cell? ⟨b, off + u * 5, none⟩ = some (.int .i64 kx) := fun W h => (hx5 W h).1
        have x1 : ∀ W, Fr w W → W.cell? ⟨b, off + u * 5 + 1, none⟩ = some (.int .i64 nx) := fun W h => (hx5 W h).2.1
        have x2 : ∀ W, Fr w W → W.cell? ⟨b, off + u * 5 + 2, none⟩ = some (.string sx) := fun W h => (hx5 W h).2.2.1
        have x3 : ∀ W, Fr w W → W.cell? ⟨b, off + u * 5 + 3, none⟩ = some (.slice cAx cnx ccx) := fun W h => (hx5 W h).2.2.2.1
        have x4 : ∀ W, Fr w W → W.cell? ⟨b, off + u * 5 + 4, none⟩ = some (.slice kAx knx kcx) := fun W h => (hx5 W h).2.2.2.2
        have y0 : ∀ W, Fr w W → W.cell? ⟨b, off + v * 5, none⟩ = some (.int .i64 ky) := fun W h => (hy5 W h).1
        have y1 : ∀ W, Fr w W → W.cell? ⟨b, off + v * 5 + 1, none⟩ = some (.int .i64 ny) := fun W h => (hy5 W h).2.1
        have y2 : ∀ W, Fr w W → W.cell? ⟨b, off + v * 5 + 2, none⟩ = some (.string sy) := fun W h => (hy5 W h).2.2.1
        have y3 : ∀ W, Fr w W → W.cell? ⟨b, off + v * 5 + 3, none⟩ = some (.slice cAy cny ccy) := fun W h => (hy5 W h).2.2.2.1
        have y4 : ∀ W, Fr w W → W.cell? ⟨b, off + v * 5 + 4, none⟩ = some (.slice kAy kny kcy) := fun W h => (hy5 W h).2.2.2.2
        have Hc := Hc0
        simp only [VT.agg] at Hc
        clear hx5 hy5 Hc0
        go_upto_region 4 with fail
        refine wp_region_held_drew (S := fun W => Fr w W) (by kernel_rfl) (hbr.drewN 1) (fun hHeld => ?_)
        refine rg_in 0 rfl (by kernel_rfl) (by kernel_rfl) (by kernel_rfl) (by rfl) (v := ?_) (fun _ _ _ h => h) hHeld (fun w hSw => ?_) ?_
        rotate_left
        · (try dsimp only at hSw); go_simp <;> (with_reducible rfl)
        (try simp only [Act.put, List.setIfInBounds_toArray, List.set_cons_zero, List.set_cons_succ])
        refine rg_in 1 rfl (by kernel_rfl) (by kernel_rfl) (by kernel_rfl) (by rfl) (v := ?_) (fun _ _ _ h => h) hHeld (fun w hSw => ?_) ?_
        rotate_left
        · (try dsimp only at hSw); go_simp <;> (with_reducible rfl)
        (try simp only [Act.put, List.setIfInBounds_toArray, List.set_cons_zero, List.set_cons_succ])
        refine rg_in 2 rfl (by kernel_rfl) (by kernel_rfl) (by kernel_rfl) (by rfl) (v := ?_) (fun _ _ _ h => h) hHeld (fun w hSw => ?_) ?_
        rotate_left
        · (try dsimp only at hSw); go_simp <;> (with_reducible rfl)
        (try simp only [Act.put, List.setIfInBounds_toArray, List.set_cons_zero, List.set_cons_succ])
        refine rg_in 3 rfl (by kernel_rfl) (by kernel_rfl) (by kernel_rfl) (by rfl) (v := ?_) (fun _ _ _ h => h) hHeld (fun w hSw => ?_) ?_
        rotate_left
        · (try dsimp only at hSw); go_simp <;> (with_reducible rfl)
        (try simp only [Act.put, List.setIfInBounds_toArray, List.set_cons_zero, List.set_cons_succ])
        refine rg_in 4 rfl (by kernel_rfl) (by kernel_rfl) (by kernel_rfl) (by rfl) (v := ?_) (fun _ _ _ h => h) hHeld (fun w hSw => ?_) ?_
        rotate_left
        · (try dsimp only at hSw); go_simp <;> (with_reducible rfl)
        (try simp only [Act.put, List.setIfInBounds_toArray, List.set_cons_zero, List.set_cons_succ])
        refine rg_in 5 rfl (by kernel_rfl) (by kernel_rfl) (by kernel_rfl) (by rfl) (v := ?_) (fun _ _ _ h => h) hHeld (fun w hSw => ?_) ?_
        rotate_left
        · (try dsimp only at hSw); go_simp <;> (with_reducible rfl)
        (try simp only [Act.put, List.setIfInBounds_toArray, List.set_cons_zero, List.set_cons_succ])
        refine rg_in 6 rfl (by kernel_rfl) (by kernel_rfl) (by kernel_rfl) (by rfl) (v := ?_) (fun _ _ _ h => h) hHeld (fun w hSw => ?_) ?_
        rotate_left
        · (try dsimp only at hSw); go_simp <;> (with_reducible rfl)
        (try simp only [Act.put, List.setIfInBounds_toArray, List.set_cons_zero, List.set_cons_succ])
        refine rg_in 7 rfl (by kernel_rfl) (by kernel_rfl) (by kernel_rfl) (by rfl) (v := ?_) (fun _ _ _ h => h) hHeld (fun w hSw => ?_) ?_
        rotate_left
        · (try dsimp only at hSw); go_simp <;> (with_reducible rfl)
        (try simp only [Act.put, List.setIfInBounds_toArray, List.set_cons_zero, List.set_cons_succ])
        refine rg_in 8 rfl (by kernel_rfl) (by kernel_rfl) (by kernel_rfl) (by rfl) (v := ?_) (fun _ _ _ h => h) hHeld (fun w hSw => ?_) ?_
        rotate_left
        · (try dsimp only at hSw); go_simp <;> (with_reducible rfl)
        (try simp only [Act.put, List.setIfInBounds_toArray, List.set_cons_zero, List.set_cons_succ])
        refine rg_in 9 rfl (by kernel_rfl) (by kernel_rfl) (by kernel_rfl) (by rfl) (v := ?_) (fun _ _ _ h => h) hHeld (fun w hSw => ?_) ?_
        rotate_left
        · (try dsimp only at hSw); go_simp <;> (with_reducible rfl)
        (try simp only [Act.put, List.setIfInBounds_toArray, List.set_cons_zero, List.set_cons_succ])
        refine rg_do 10 rfl (by kernel_rfl) (by rfl) (fun K hK => ?_)
        go_simp
        (go_at_call 33; (with_reducible refine (Hc.out _ hHeld).mono ?_); (rintro e w110 ⟨rfl, hb10⟩))
        refine hK.out _ _ (hHeld.next hb10) (fun hHeld => ?_)
        clear hK K
        (try simp only [Act.put, List.setIfInBounds_toArray, List.set_cons_zero, List.set_cons_succ])
        refine rg_in 11 rfl (by kernel_rfl) (by kernel_rfl) (by kernel_rfl) (by rfl) (v := ?_) (fun _ _ _ h => h) hHeld (fun w hSw => ?_) ?_
        rotate_left
        · (try dsimp only at hSw); go_simp <;> (with_reducible rfl)
        (try simp only [Act.put, List.setIfInBounds_toArray, List.set_cons_zero, List.set_cons_succ])
        refine wpAnyH_done (by kernel_rfl) ?_ _
        by_cases hr0 : r < 0
        · have Hn := Lib.hid (Hno.out hr0)
          have hr1 : decide (r < 0) = true := by simpa using hr0
          clear Hno Hyes
          go_wp2
          go_ret
          exact srtB_mk false rfl ⟨fun h => (by cases h), fun h => (Hn.out h).elim⟩ hHeld
        · have Hy := Hyes.out hr0
          have hr1 : decide (r < 0) = false := by simpa using hr0
          clear Hno Hyes
          go_wp2
          go_roundw
          case rel => exact ⟨v, by first | rfl | go_num, hvN, Hy, hHeld⟩
          case measure => have := Hvu.out; simp [intOf]; omega
end Go.Proofs.YtndolgbbochpjaaDoor
/-
  Layer 7: Place.
-/
namespace Go.Proofs.YtndolgbbochpjaaDoor
open Go.RowKit
set_option linter.unusedVariables false

def befN (T : VT) (L : List VT) : Nat := L.countP fun x => decide (cmpV x T < 0)
def uptN (T : VT) (L : List VT) : Nat := L.countP fun x => decide (cmpV x T ≤ 0)
def PlQ (L : List VT) (T : VT) (X : Int × Int) (E : Int) : Prop := (¬ Rise L ∧ X = (0, 0) ∧ E = 2) ∨ (Rise L ∧ X = ((befN T L : Int), (uptN T L : Int)) ∧ E = 0)
theorem bef_snoc {T x : VT} {L : List VT} {j : Nat} (h : L[j]? = some x) : befN T (L.take (j + 1)) = befN T (L.take j) + (if cmpV x T < 0 then 1 else 0) ∧ uptN T (L.take (j + 1)) = uptN T (L.take j) + (if cmpV x T ≤ 0 then 1 else 0) := by
  unfold befN uptN
  rw [List.take_add_one, h, List.countP_append, List.countP_append]
  simp
set_option maxRecDepth 20000 in
set_option maxHeartbeats 2000000 in
theorem placeW_any (A : Option Addr) (n c B p q : Nat) (L : List VT) (T : VT) (w : World) (h : Shows w B 5 A n (L.flatMap VT.cells)) (hL : ∀ x ∈ L, Lie w B x ∧ x.ok = true) (hT : Lie w B T) (hTok : T.ok = true) (hB : B ≤ w.heap.size) (hn : n ≤ 1000) (hr : RTab w)
    (hp : w.cell? ⟨p, 0, none⟩ = some (.slice A n c)) (hq : ∀ i v, T.cells[i]? = some v → w.cell? ⟨q, i, none⟩ = some v) :
    Calls Tryd.prog 39 #[.pointer (some ⟨p, 0, none⟩), .pointer (some ⟨q, 0, none⟩)] w fun e w' => ∃ X E, e = .returned (.tuple #[.agg #[.int .i64 X.1, .int .i64 X.2], .int .i64 E]) ∧ PlQ L T X E ∧ Below w.heap.size w w' := by
  have hlen := kids_len h
  have hf1 := (Fr.refl w).alloc (.cells #[.int .i64 0, .int .i64 0] 60)
  have HV := Lib.hid (VTwo.new w (.int .i64 0) (.int .i64 0) 60 w.heap.size rfl)
  have hpl := World.block_lt_of_cell? w _ hp
  have hql := World.block_lt_of_cell? w _ (show w.cell? ⟨q, 0, none⟩ = some (.int .i64 T.k) from hq 0 _ (by cases T; rfl))
  have Hp := Lib.hid (fun W (h : Below w.heap.size w W) => ((h.cell (p := ⟨p, 0, none⟩) hpl).trans hp))
  have Hq := Lib.hid (fun W (h : Below w.heap.size w W) i v (hv : T.cells[i]? = some v) => ((h.cell (p := ⟨q, i, none⟩) hql).trans (hq i v hv)))
  have hsrt := sorted_any A n c B L _ (h.below (hf1.1.mono hB)) (fun x hx => ⟨(hL x hx).1.later (hf1.1.mono hB), (hL x hx).2⟩) (Nat.le_trans hB hf1.1.size) hn (hr.fr hf1)
  have Hs := Lib.hid (fun W (hb : Below w.heap.size w W) => h.below (hb.mono hB))
  have Hc := Lib.hid (fun x (hx : x ∈ L) W (hb : Below w.heap.size w W) => compareV_any x T B W ((hL x hx).1.later (hb.mono hB)) (hT.later (hb.mono hB)) (hL x hx).2 hTok (Nat.le_trans hB hb.size) (hr.below hb hr.lt))
  have Hlen := Lib.hid hlen
  have HQ := Lib.hid (fun (X : Int × Int) (E : Int) => (Iff.rfl : PlQ L T X E ↔ _))
  obtain ⟨tk, tn, ts, tcA, tcn, tcc, tkA, tkn, tkc, tkeys, tkids⟩ := T
  simp only [VT.agg, VT.cells] at Hc Hq
  have HPl := Lib.hid (fun (X : Int × Int) (E : Int) (h : (¬ Rise L ∧ X = (0, 0) ∧ E = 2) ∨ (Rise L ∧ X = ((befN (.mk tk tn ts tcA tcn tcc tkA tkn tkc tkeys tkids) L : Int), (uptN (.mk tk tn ts tcA tcn tcc tkA tkn tkc tkeys tkids) L : Int)) ∧ E = 0)) => (show PlQ L (.mk tk tn ts tcA tcn tcc tkA tkn tkc tkeys tkids) X E from h))
  have hp1 := Hp.out _ hf1.1
  clear h hL hT hTok hr hp hq hpl hql hlen HQ
  go_enter Tryd.func39, Tryd.ntmps39
  go_wp2_with fail
  refine hsrt.mono ?_
  rintro e w2 ⟨b, rfl, hbr, hf2⟩
  have hf := hf1.next hf2
  have HV2 := Lib.hid (HV.out.later hf2.1)
  have Hbr := Lib.hid hbr
  clear hsrt hbr hp1 HV
  cases b
  · have Hn := Lib.hid (show ¬ Rise L from fun h => by have h2 := Hbr.out.2 h; cases h2)
    obtain ⟨⟨y0, y1⟩, f0, f1⟩ := HV2.out
    clear Hbr
    go_wp2
    refine bodyPost_ret (v := .tuple #[.agg #[.int .i64 0, .int .i64 0], .int .i64 2]) ?_ rfl ⟨(0, 0), 2, rfl, HPl.out _ _ (.inl ⟨Hn.out, rfl, rfl⟩), below_set2 hf.1 (Nat.le_refl _)⟩
    simp [results, Tryd.results39, go_sem, *]
  · have Hy := Lib.hid (Hbr.out.1 rfl)
    have hb3 := bel_alloc (Below.refl w2.heap.size w2) (.cells #[.int .i64 0, .int .i64 0] 60)
    have HP := Lib.hid (VTwo.new w2 (.int .i64 0) (.int .i64 0) 60 w2.heap.size rfl)
    have hp2 := Hp.out _ (bel_next hf.1 hb3)
    clear Hbr
    go_wp2
    go_loopw [14] (fun i wr => ∃ j u v : Nat, j ≤ n ∧ i = .int .i64 j ∧ Hid (u = befN (.mk tk tn ts tcA tcn tcc tkA tkn tkc tkeys tkids) (L.take j) ∧ v = uptN (.mk tk tn ts tcA tcn tcc tkA tkn tkc tkeys tkids) (L.take j)) ∧ u ≤ j ∧ v ≤ j ∧ Hid (VTwo wr w2.heap.size (.int .i64 u) (.int .i64 v)) ∧ Below w2.heap.size w2 wr) (fun i _ => n - (intOf i).toNat)
    case atStart => exact ⟨0, 0, 0, Nat.zero_le _, rfl, Lib.hid ⟨rfl, rfl⟩, Nat.le_refl _, Nat.le_refl _, HP, hb3⟩
    case round =>
      obtain ⟨j, u, v, hj, rfl, HC, hu, hv, HPr, hbr⟩ := hrel
      clear hp2 HP
      have hbw := bel_next hf.1 hbr
      by_cases hlt : j < n
      · obtain ⟨b, off, x, rfl, _, hx, h5⟩ := kids_at (Hs.out wr hbw) hlt
        have hsn := bef_snoc (T := .mk tk tn ts tcA tcn tcc tkA tkn tkc tkeys tkids) hx
        have hcx := Hc.out x (List.mem_of_getElem? hx)
        have H1 := Lib.hid (fun (h : cmpV x (.mk tk tn ts tcA tcn tcc tkA tkn tkc tkeys tkids) < 0) => (⟨by rw [hsn.1, if_pos h, HC.out.1], by rw [hsn.2, if_pos (by omega), HC.out.2]⟩ : u + 1 = befN (.mk tk tn ts tcA tcn tcc tkA tkn tkc tkeys tkids) (L.take (j + 1)) ∧ v + 1 = uptN (.mk tk tn ts tcA tcn tcc tkA tkn tkc tkeys tkids) (L.take (j + 1))))
        have H2 := Lib.hid (fun (h : cmpV x (.mk tk tn ts tcA tcn tcc tkA tkn tkc tkeys tkids) = 0) => (⟨by rw [hsn.1, if_neg (by omega), HC.out.1]; rfl, by rw [hsn.2, if_pos (by omega), HC.out.2]⟩ : u = befN (.mk tk tn ts tcA tcn tcc tkA tkn tkc tkeys tkids) (L.take (j + 1)) ∧ v + 1 = uptN (.mk tk tn ts tcA tcn tcc tkA tkn tkc tkeys tkids) (L.take (j + 1))))
        have H3 := Lib.hid (fun (h : 0 < cmpV x (.mk tk tn ts tcA tcn tcc tkA tkn tkc tkeys tkids)) => (⟨by rw [hsn.1, if_neg (by omega), HC.out.1]; rfl, by rw [hsn.2, if_neg (by omega), HC.out.2]; rfl⟩ : u = befN (.mk tk tn ts tcA tcn tcc tkA tkn tkc tkeys tkids) (L.take (j + 1)) ∧ v = uptN (.mk tk tn ts tcA tcn tcc tkA tkn tkc tkeys tkids) (L.take (j + 1))))
        have Hcx := Lib.hid hcx
        clear hx hsn HC hcx
        generalize cmpV x (.mk tk tn ts tcA tcn tcc tkA tkn tkc tkeys tkids) = r at *
        obtain ⟨xk, xn, xs, xcA, xcn, xcc, xkA, xkn, xkc, xkeys, xkids⟩ := x
        obtain ⟨g0, g1, g2, g3, g4⟩ := h5
        have hlt' : (j : Int) < (n : Int) := by omega
        have hb4 := bel_alloc hbr (.cells #[.int .i64 xk, .int .i64 xn, .string xs, .slice xcA xcn xcc, .slice xkA xkn xkc] 25)
        have hb4' := bel_alloc (Below.refl wr.heap.size wr) (.cells #[.int .i64 xk, .int .i64 xn, .string xs, .slice xcA xcn xcc, .slice xkA xkn xkc] 25)
        have HX := VFive.new wr (.int .i64 xk) (.int .i64 xn) (.string xs) (.slice xcA xcn xcc) (.slice xkA xkn xkc) 25 wr.heap.size rfl
        have hb5 := bel_next hf.1 hb4
        have q0 := Hq.out _ hb5 0 _ rfl
        have q1 := Hq.out _ hb5 1 _ rfl
        have q2 := Hq.out _ hb5 2 _ rfl
        have q3 := Hq.out _ hb5 3 _ rfl
        have q4 := Hq.out _ hb5 4 _ rfl
        have hcx := Hcx.out _ hb5
        simp only at hcx
        obtain ⟨⟨v0, v1, v2, v3, v4⟩, -⟩ := HX
        have HP4 := Lib.hid (HPr.out.later hb4')
        clear HPr Hcx
        go_wp2_with fail
        refine hcx.mono ?_
        rintro e w5 ⟨rfl, hf5⟩
        have hb6 := bel_next hb4 hf5.1
        have HP5 := Lib.hid (HP4.out.later hf5.1)
        obtain ⟨⟨z0, z1⟩, zf0, zf1⟩ := HP5.out
        clear hcx v0 v1 v2 v3 v4 q0 q1 q2 q3 q4 g0 g1 g2 g3 g4 HP4
        by_cases hr0 : r < 0
        · have H := Lib.hid (H1.out hr0)
          clear H1 H2 H3
          go_wp2
          go_roundw
          case rel => exact ⟨j + 1, u + 1, v + 1, by omega, by go_num, H, by omega, by omega, Lib.hid (by first | exact VTwo.set2 HP5.out | (simpa using VTwo.set2 HP5.out)), below_set2 hb6 (Nat.le_refl _)⟩
          case measure => simp [intOf]; omega
        · by_cases hr1 : r = 0
          · have H := Lib.hid (H2.out hr1)
            subst hr1
            clear H1 H2 H3 hr0
            go_wp2
            go_roundw
            case rel => exact ⟨j + 1, u, v + 1, by omega, by go_num, H, by omega, by omega, Lib.hid (by first | exact VTwo.set1 HP5.out | (simpa using VTwo.set1 HP5.out)), hb6.setCell (Nat.le_refl _) _⟩
            case measure => simp [intOf]; omega
          · have H := Lib.hid (H3.out (by omega))
            clear H1 H2 H3
            go_wp2
            go_roundw
            case rel => exact ⟨j + 1, u, v, by omega, by go_num, H, by omega, by omega, HP5, hb6⟩
            case measure => simp [intOf]; omega
      · obtain rfl : j = n := by omega
        have htk : L.take j = L := List.take_of_length_le (by have := Hlen.out; omega)
        rw [htk] at HC
        have HF := Lib.hid (HPl.out ((u : Int), (v : Int)) 0 (.inr ⟨Hy.out, by rw [HC.out.1, HC.out.2], rfl⟩))
        obtain ⟨⟨z0, z1⟩, zf0, zf1⟩ := HPr.out
        obtain ⟨⟨y0, y1⟩, f0, f1⟩ := HV2.out.later hbr
        clear HC
        go_wp2
        refine bodyPost_ret (v := .tuple #[.agg #[.int .i64 u, .int .i64 v], .int .i64 0]) ?_ rfl ⟨_, 0, rfl, HF.out, below_set2 hbw (Nat.le_refl _)⟩
        simp [results, Tryd.results39, go_sem, *]
end Go.Proofs.YtndolgbbochpjaaDoor
/-
  Layer 7: Place.
-/
namespace Go.Proofs.YtndolgbbochpjaaDoor
open Go.RowKit
set_option linter.unusedVariables false

theorem rows_two {w : World} {B g n c : Nat} {A : Option Addr} {L : List VT} {g2 : Nat} {T : VT} (h : Shows w B 5 A n (L.flatMap VT.cells)) (hL : ∀ x ∈ L, Lie w B x) (hn : n ≤ 1000) (hT : Shows w B 5 (some ⟨g2, 0, none⟩) 1 ([T].flatMap VT.cells)) (hLT : Lie w B T)
    (h0 : w.cell? ⟨g, 0, none⟩ = some (.slice A n c)) (h1 : w.cell? ⟨g, 1, none⟩ = some (.slice (some ⟨g2, 0, none⟩) 1 1)) (hg : g < B) :
    RowsOf w B (some ⟨g, 0, none⟩) 2 [⟨A, n, c, L⟩, ⟨some ⟨g2, 0, none⟩, 1, 1, [T]⟩] := by
  refine ⟨⟨rfl, fun _ => ⟨g, 0, rfl, hg, fun i v hv => ?_⟩⟩, fun r hr => ?_⟩
  · match i, hv with
    | 0, hv => injection hv with hv; subst hv; exact h0
    | 1, hv => injection hv with hv; subst hv; exact h1
    | i + 2, hv => simp at hv
  · rcases List.mem_cons.1 hr with rfl | hr
    · exact ⟨h, hL, hn⟩
    · rw [List.mem_singleton] at hr
      subst hr
      exact ⟨hT, fun x hx => by rw [List.mem_singleton] at hx; subst hx; exact hLT, by show (1 : Nat) ≤ 1000; omega⟩
def PlP (L : List VT) (T : VT) (X : Int × Int) (E : Int) : Prop := ((L.all VT.ok && T.ok) = false ∧ X = (0, 0) ∧ E = 140) ∨ ((L.all VT.ok && T.ok) = true ∧ PlQ L T X E)
set_option maxRecDepth 20000 in
set_option maxHeartbeats 2000000 in
theorem placeT_any (A : Option Addr) (n c B : Nat) (L : List VT) (T : VT) (w : World) (h : Shows w B 5 A n (L.flatMap VT.cells)) (hL : ∀ x ∈ L, Lie w B x) (hT : Lie w B T) (hB : B ≤ w.heap.size) (hn : n ≤ 1000) (htab : UTab w) (hst : STab w) (hr : RTab w) :
    Calls Tryd.prog 16 #[.slice A n c, T.agg] w fun e w' => ∃ X E, e = .returned (.tuple #[.int .i64 X.1, .int .i64 X.2, .int .i64 E]) ∧ Hid (PlP L T X E) ∧ Below w.heap.size w w' := by
  obtain ⟨tk, tn, ts, tcA, tcn, tcc, tkA, tkn, tkc, tkeys, tkids⟩ := T
  have hb := bel_alloc (bel_alloc (bel_alloc (bel_alloc (Below.refl w.heap.size w) (.cells #[.slice A n c] 22)) (.cells #[.int .i64 tk, .int .i64 tn, .string ts, .slice tcA tcn tcc, .slice tkA tkn tkc] 25)) (.cells #[.int .i64 tk, .int .i64 tn, .string ts, .slice tcA tcn tcc, .slice tkA tkn tkc] 25)) (.cells #[.slice A n c, .slice (some ⟨w.heap.size + 2, 0, none⟩) 1 1] 22)
  have hsz : ((((w.alloc (.cells #[.slice A n c] 22)).alloc (.cells #[.int .i64 tk, .int .i64 tn, .string ts, .slice tcA tcn tcc, .slice tkA tkn tkc] 25)).alloc (.cells #[.int .i64 tk, .int .i64 tn, .string ts, .slice tcA tcn tcc, .slice tkA tkn tkc] 25)).alloc (.cells #[.slice A n c, .slice (some ⟨w.heap.size + 2, 0, none⟩) 1 1] 22)).heap.size = w.heap.size + 4 := by simp
  have c0 : ((((w.alloc (.cells #[.slice A n c] 22)).alloc (.cells #[.int .i64 tk, .int .i64 tn, .string ts, .slice tcA tcn tcc, .slice tkA tkn tkc] 25)).alloc (.cells #[.int .i64 tk, .int .i64 tn, .string ts, .slice tcA tcn tcc, .slice tkA tkn tkc] 25)).alloc (.cells #[.slice A n c, .slice (some ⟨w.heap.size + 2, 0, none⟩) 1 1] 22)).cell? ⟨w.heap.size, 0, none⟩ = some (.slice A n c) := (((((Box.new w #[.slice A n c] 22).alloc (.cells #[.int .i64 tk, .int .i64 tn, .string ts, .slice tcA tcn tcc, .slice tkA tkn tkc] 25)).alloc (.cells #[.int .i64 tk, .int .i64 tn, .string ts, .slice tcA tcn tcc, .slice tkA tkn tkc] 25)).alloc (.cells #[.slice A n c, .slice (some ⟨w.heap.size + 2, 0, none⟩) 1 1] 22)) 0 _ rfl).1
  have c1 := ((VFive.new (w.alloc (.cells #[.slice A n c] 22)) (.int .i64 tk) (.int .i64 tn) (.string ts) (.slice tcA tcn tcc) (.slice tkA tkn tkc) 25 (w.heap.size + 1) (World.size_alloc _ _)).alloc (.cells #[.int .i64 tk, .int .i64 tn, .string ts, .slice tcA tcn tcc, .slice tkA tkn tkc] 25)).alloc (.cells #[.slice A n c, .slice (some ⟨w.heap.size + 2, 0, none⟩) 1 1] 22)
  have c2 := (VFive.new ((w.alloc (.cells #[.slice A n c] 22)).alloc (.cells #[.int .i64 tk, .int .i64 tn, .string ts, .slice tcA tcn tcc, .slice tkA tkn tkc] 25)) (.int .i64 tk) (.int .i64 tn) (.string ts) (.slice tcA tcn tcc) (.slice tkA tkn tkc) 25 (w.heap.size + 2) (by simp)).alloc (.cells #[.slice A n c, .slice (some ⟨w.heap.size + 2, 0, none⟩) 1 1] 22)
  have e3 : (((w.alloc (.cells #[.slice A n c] 22)).alloc (.cells #[.int .i64 tk, .int .i64 tn, .string ts, .slice tcA tcn tcc, .slice tkA tkn tkc] 25)).alloc (.cells #[.int .i64 tk, .int .i64 tn, .string ts, .slice tcA tcn tcc, .slice tkA tkn tkc] 25)).heap.size = w.heap.size + 3 := by simp
  have c3 : ((((w.alloc (.cells #[.slice A n c] 22)).alloc (.cells #[.int .i64 tk, .int .i64 tn, .string ts, .slice tcA tcn tcc, .slice tkA tkn tkc] 25)).alloc (.cells #[.int .i64 tk, .int .i64 tn, .string ts, .slice tcA tcn tcc, .slice tkA tkn tkc] 25)).alloc (.cells #[.slice A n c, .slice (some ⟨w.heap.size + 2, 0, none⟩) 1 1] 22)).cell? ⟨w.heap.size + 3, 0, none⟩ = some (.slice A n c) := by
    have := (Box.new (((w.alloc (.cells #[.slice A n c] 22)).alloc (.cells #[.int .i64 tk, .int .i64 tn, .string ts, .slice tcA tcn tcc, .slice tkA tkn tkc] 25)).alloc (.cells #[.int .i64 tk, .int .i64 tn, .string ts, .slice tcA tcn tcc, .slice tkA tkn tkc] 25)) #[.slice A n c, .slice (some ⟨w.heap.size + 2, 0, none⟩) 1 1] 22 0 _ rfl).1
    rwa [e3] at this
  have c4 : ((((w.alloc (.cells #[.slice A n c] 22)).alloc (.cells #[.int .i64 tk, .int .i64 tn, .string ts, .slice tcA tcn tcc, .slice tkA tkn tkc] 25)).alloc (.cells #[.int .i64 tk, .int .i64 tn, .string ts, .slice tcA tcn tcc, .slice tkA tkn tkc] 25)).alloc (.cells #[.slice A n c, .slice (some ⟨w.heap.size + 2, 0, none⟩) 1 1] 22)).cell? ⟨w.heap.size + 3, 1, none⟩ = some (.slice (some ⟨w.heap.size + 2, 0, none⟩) 1 1) := by
    have := (Box.new (((w.alloc (.cells #[.slice A n c] 22)).alloc (.cells #[.int .i64 tk, .int .i64 tn, .string ts, .slice tcA tcn tcc, .slice tkA tkn tkc] 25)).alloc (.cells #[.int .i64 tk, .int .i64 tn, .string ts, .slice tcA tcn tcc, .slice tkA tkn tkc] 25)) #[.slice A n c, .slice (some ⟨w.heap.size + 2, 0, none⟩) 1 1] 22 1 _ rfl).1
    rwa [e3] at this
  have hrow := rows_two (B := ((((w.alloc (.cells #[.slice A n c] 22)).alloc (.cells #[.int .i64 tk, .int .i64 tn, .string ts, .slice tcA tcn tcc, .slice tkA tkn tkc] 25)).alloc (.cells #[.int .i64 tk, .int .i64 tn, .string ts, .slice tcA tcn tcc, .slice tkA tkn tkc] 25)).alloc (.cells #[.slice A n c, .slice (some ⟨w.heap.size + 2, 0, none⟩) 1 1] 22)).heap.size) (g := w.heap.size + 3) (c := c) (g2 := w.heap.size + 2) (T := .mk tk tn ts tcA tcn tcc tkA tkn tkc tkeys tkids) ((h.below (hb.mono hB)).more (Nat.le_trans hB hb.size)) (fun x hx => ((hL x hx).later (hb.mono hB)).more (Nat.le_trans hB hb.size)) hn
    ⟨rfl, fun _ => ⟨w.heap.size + 2, 0, rfl, by rw [hsz]; omega, fun i v hv => by rw [Nat.zero_add]; exact five_cells c2 i v (by simpa [VT.cells] using hv)⟩⟩ ((hT.later (hb.mono hB)).more (Nat.le_trans hB hb.size)) c3 c4 (by rw [hsz]; omega)
  have hck := chkP_any w.heap.size (w.heap.size + 1) (PlQ L (.mk tk tn ts tcA tcn tcc tkA tkn tkc tkeys tkids)) _ 2 2 _ _ ((((w.alloc (.cells #[.slice A n c] 22)).alloc (.cells #[.int .i64 tk, .int .i64 tn, .string ts, .slice tcA tcn tcc, .slice tkA tkn tkc] 25)).alloc (.cells #[.int .i64 tk, .int .i64 tn, .string ts, .slice tcA tcn tcc, .slice tkA tkn tkc] 25)).alloc (.cells #[.slice A n c, .slice (some ⟨w.heap.size + 2, 0, none⟩) 1 1] 22)) hrow (Nat.le_refl _) (by decide) (htab.below hb htab.lt) (hst.below hb hst.lt) (fun hok W hbW => by
    have hb2 := bel_next hb hbW
    have hok' : (∀ x ∈ L, x.ok = true) ∧ (VT.mk tk tn ts tcA tcn tcc tkA tkn tkc tkeys tkids).ok = true := by simpa [okR] using hok
    have hlt : w.heap.size < ((((w.alloc (.cells #[.slice A n c] 22)).alloc (.cells #[.int .i64 tk, .int .i64 tn, .string ts, .slice tcA tcn tcc, .slice tkA tkn tkc] 25)).alloc (.cells #[.int .i64 tk, .int .i64 tn, .string ts, .slice tcA tcn tcc, .slice tkA tkn tkc] 25)).alloc (.cells #[.slice A n c, .slice (some ⟨w.heap.size + 2, 0, none⟩) 1 1] 22)).heap.size := by rw [hsz]; omega
    exact placeW_any A n c B w.heap.size (w.heap.size + 1) L _ W (h.below (hb2.mono hB)) (fun x hx => ⟨(hL x hx).later (hb2.mono hB), hok'.1 x hx⟩) (hT.later (hb2.mono hB)) hok'.2 (Nat.le_trans hB hb2.size) hn (hr.below hb2 hr.lt) ((hbW.cell (p := ⟨w.heap.size, 0, none⟩) hlt).trans c0) (five_cells (c1.later hbW)))
  have HO := Lib.hid (by simp [okR] : okR [(⟨A, n, c, L⟩ : RowT), ⟨some ⟨w.heap.size + 2, 0, none⟩, 1, 1, [.mk tk tn ts tcA tcn tcc tkA tkn tkc tkeys tkids]⟩] = (L.all VT.ok && (VT.mk tk tn ts tcA tcn tcc tkA tkn tkc tkeys tkids).ok))
  obtain ⟨⟨v0, v1, v2, v3, v4⟩, -⟩ := c1
  simp only [VT.agg]
  clear h hL hT htab hst hr hrow c2 c3 c4 hsz e3
  go_enter Tryd.func16, Tryd.ntmps16
  go_wp2_with fail
  refine hck.mono ?_
  rintro e w1 ⟨hres, hb1⟩
  have hbw := bel_next hb hb1
  have hX : ∃ X E, e = .returned (.tuple #[.agg #[.int .i64 X.1, .int .i64 X.2], .int .i64 E]) ∧ PlP L (.mk tk tn ts tcA tcn tcc tkA tkn tkc tkeys tkids) X E := by
    rcases hres with ⟨h1, h2⟩ | ⟨h1, X, E, h2, hq⟩
    · rw [HO.out] at h1
      exact ⟨(0, 0), 140, h2, .inl ⟨h1, rfl, rfl⟩⟩
    · rw [HO.out] at h1
      exact ⟨X, E, h2, .inr ⟨h1, hq⟩⟩
  obtain ⟨⟨xa, xb⟩, E, rfl, hP⟩ := hX
  have HP := Lib.hid hP
  simp only
  clear hck hres HO hP c0 v0 v1 v2 v3 v4
  have hbx := bel_alloc hbw (.cells #[.int .i64 xa, .int .i64 xb] 60)
  have HV := VTwo.new w1 (.int .i64 xa) (.int .i64 xb) 60 w1.heap.size rfl
  obtain ⟨⟨y0, y1⟩, -⟩ := HV
  go_wp2
  go_quiet (fail)
  go_wp2
  refine bodyPost_ret (v := .tuple #[.int .i64 xa, .int .i64 xb, .int .i64 E]) ?_ rfl ⟨(xa, xb), E, rfl, HP, below_drewN hbx _⟩
  simp [results, Tryd.results16, go_sem, *]
end Go.Proofs.YtndolgbbochpjaaDoor
/-
  Layer 4: List.
-/
namespace Go.Proofs.YtndolgbbochpjaaDoor
open Go.RowKit
set_option linter.unusedVariables false

def chkT (T : VT) : VT := if T.ok = true then T else scV 0 0 ⟨#[]⟩
def chkE (T : VT) : Int := if T.ok = true then 0 else 140
theorem chkR_T (T : VT) : chkR T = .tuple #[(chkT T).agg, .int .i64 (chkE T)] := by unfold chkR chkT chkE; split <;> rfl
theorem chkT_ok {T : VT} (h : T.ok = true) : chkT T = T := by unfold chkT; rw [if_pos h]
theorem chkE_ok {T : VT} (h : T.ok = true) : chkE T = 0 := by unfold chkE; rw [if_pos h]
theorem chkE_no {T : VT} (h : T.ok = false) : chkE T = 140 := by unfold chkE; rw [h]; rfl
theorem chkT_no {T : VT} (h : T.ok = false) : chkT T = scV 0 0 ⟨#[]⟩ := by unfold chkT; rw [h]; rfl
/-- A list of these. -/
abbrev lsV (A : Option Addr) (n c : Nat) (l : List VT) : VT := .mk 5 0 ⟨#[]⟩ A n c none 0 0 [] l
theorem lie_ls {W : World} {b n c : Nat} {A : Option Addr} {l : List VT} (ho : W.ownsRow b 25 5 (.slice A n c) n (l.flatMap VT.cells)) (hl : ∀ x ∈ l, Lie W W.heap.size x) : Lie W W.heap.size (lsV A n c l) := by
  have hf := own_form ho
  obtain ⟨A', c', e, h1, h2⟩ := hf
  injection e with e1 e2 e3
  subst e1; subst e3
  refine .mk (Shows.own ho) (Shows.zero none) ⟨by decide, by decide, by decide, h1, h2, ?_, Nat.le_refl _, by decide, fun _ => rfl, by simp⟩ hl
  intro hA
  rcases ho.2 with ⟨e, _⟩ | ⟨g, cap, cur, e, _⟩
  · injection e
  · injection e with e1; rw [hA] at e1; cases e1
end Go.Proofs.YtndolgbbochpjaaDoor
/-
  Layer 7: what the law's own wakes leans on: whole numbers and lists of them.
-/
namespace Go.Proofs.YtndolgbbochpjaaDoor
open Go.RowKit
set_option linter.unusedVariables false

abbrev inV (n : Int) : VT := scV 3 n ⟨#[]⟩
theorem in_ok (n : Int) : (inV n).ok = true := by
  refine sc_ok _ _ _ (by decide) ?_
  unfold scV
  rw [fit_mk, strB_nil]
  have h2 : numB 3 n = true := rfl
  rw [h2]
  decide
theorem cmp_in (a b : Int) : cmpV (inV a) (inV b) = cmpQ a b := by
  unfold cmpV
  rw [cmpF]
  have h1 : rankV (inV a) = rankV (inV b) := rfl
  rw [h1, cmpQ_self, thenI_0]
  show thenI (cmpQ a b) (thenI (vcmp ⟨#[]⟩ ⟨#[]⟩) (lexL _ [] [])) = _
  rw [vcmp_self, thenI_0]
  exact thenI_r0 _
theorem lie_in (n : Int) (w : World) (B : Nat) (hn : (Lit.int .i64 n).wf = true) : Lie w B (inV n) := lie_sc _ _ _ _ _ (by decide) hn (by decide)
theorem ints_ok (A : Option Addr) (n c : Nat) (l : List Int) (h : l.length ≤ 100) : (lsV A n c (l.map inV)).ok = true := by
  have hd : (lsV A n c (l.map inV)).dep ≤ 1 := by
    rw [dep_mk]
    have : ∀ l : List Int, maxL ((l.map inV).map VT.dep) = 0 := by
      intro l
      induction l with
      | nil => rfl
      | cons x l ih => rw [List.map_cons, List.map_cons, maxL_cons, ih, sc_dep]; rfl
    rw [this]
    decide
  have hc : (lsV A n c (l.map inV)).cnt ≤ 101 := by
    rw [cnt_mk]
    have : ∀ l : List Int, ((l.map inV).map VT.cnt).sum = l.length := by
      intro l
      induction l with
      | nil => rfl
      | cons x l ih => rw [List.map_cons, List.map_cons, List.sum_cons, ih, sc_cnt, List.length_cons]; omega
    rw [this]
    omega
  have ha : (lsV A n c (l.map inV)).all = true := by
    rw [all_mk, fit_mk, strB_nil]
    have h3 : eleB 5 n = true := by unfold eleB eleQ shKids; simp
    have h4 : memB 5 n 0 [] = true := rfl
    rw [h3, h4]
    simp only [Bool.and_eq_true, List.all_eq_true]
    refine ⟨by decide, fun x hx => ?_⟩
    obtain ⟨m, -, rfl⟩ := List.mem_map.1 hx
    have := in_ok m
    unfold VT.ok at this
    simp only [Bool.and_eq_true] at this
    exact this.2.2
  unfold VT.ok
  rw [ha]
  simp only [Bool.and_eq_true, decide_eq_true_eq, and_true]
  omega
theorem lie_lsS {w : World} {B : Nat} {A : Option Addr} {n c : Nat} {l : List VT} (h : Shows w B 5 A n (l.flatMap VT.cells)) (hl : ∀ x ∈ l, Lie w B x) (hA : A = none → c = 0) (hnc : n ≤ c) (hc : c ≤ maxLen) : Lie w B (lsV A n c l) :=
  .mk h (Shows.zero none) ⟨by decide, by decide, by decide, hnc, hc, hA, Nat.le_refl _, by decide, fun _ => rfl, by simp⟩ hl
set_option maxRecDepth 20000 in
theorem in_any (n : Int) (w : World) : Calls Tryd.prog 30 #[.int .i64 n] w fun e w' => e = .returned (.agg #[.int .i64 3, .int .i64 n, .string ⟨#[]⟩, .slice none 0 0, .slice none 0 0]) ∧ Below w.heap.size w w' := by
  go_enter Tryd.func30, Tryd.ntmps30
  go_wp2
  refine bodyPost_ret (v := .agg #[.int .i64 3, .int .i64 n, .string ⟨#[]⟩, .slice none 0 0, .slice none 0 0]) ?_ rfl ⟨rfl, bel_alloc (Below.refl _ _) _⟩
  simp [results, Tryd.results30, go_sem, *]
set_option maxRecDepth 20000 in
theorem list1_any (A : Option Addr) (n c : Nat) (w : World) : Calls Tryd.prog 27 #[.slice A n c] w fun e w' => e = .returned (.agg #[.int .i64 5, .int .i64 0, .string ⟨#[]⟩, .slice A n c, .slice none 0 0]) ∧ Below w.heap.size w w' := by
  go_enter Tryd.func27, Tryd.ntmps27
  go_wp2
  refine bodyPost_ret (v := .agg #[.int .i64 5, .int .i64 0, .string ⟨#[]⟩, .slice A n c, .slice none 0 0]) ?_ rfl ⟨rfl, bel_alloc (Below.refl _ _) _⟩
  simp [results, Tryd.results27, go_sem, *]
/-- Values in order, no two alike: one row alone. -/
theorem rise_one {L M : List VT} (hM : M.Pairwise fun x y => cmpV x y < 0) (h : Rise L) (hp : L.Perm M) : L = M := by
  refine hp.eq_of_pairwise (le := fun x y => cmpV x y ≤ 0) (fun a b ha hb h1 h2 => ?_) h (hM.imp fun h => by omega)
  have hz : cmpV a b = 0 := by have := cmpV_is.turn a b; omega
  have ha' := hp.mem_iff.1 ha
  obtain ⟨i, hi, rfl⟩ := List.getElem_of_mem ha'
  obtain ⟨j, hj, rfl⟩ := List.getElem_of_mem hb
  rcases Nat.lt_trichotomy i j with hlt | rfl | hlt
  · have := List.pairwise_iff_getElem.1 hM i j hi hj hlt; omega
  · rfl
  · have := List.pairwise_iff_getElem.1 hM j i hj hi hlt
    have ht := cmpV_is.turn M[i] M[j]
    omega
theorem cmp_wake1 (A A' : Option Addr) (c c' : Nat) : cmpT (lsV A 2 c [inV 1, inV 2]) (lsV A' 1 c' [inV 1]) = .tuple #[.int .i64 1, .int .i64 0] := by
  unfold cmpT
  rw [show (lsV A 2 c [inV 1, inV 2]).ok = true from ints_ok A 2 c [1, 2] (by decide), show (lsV A' 1 c' [inV 1]).ok = true from ints_ok A' 1 c' [1] (by decide)]
  have h : cmpV (lsV A 2 c [inV 1, inV 2]) (lsV A' 1 c' [inV 1]) = 1 := by
    unfold cmpV
    rw [cmpF]
    have h1 : rankV (lsV A 2 c [inV 1, inV 2]) = rankV (lsV A' 1 c' [inV 1]) := rfl
    rw [h1, cmpQ_self, thenI_0]
    show thenI (cmpQ 0 0) (thenI (vcmp ⟨#[]⟩ ⟨#[]⟩) (lexL (cmpE (cmpF 8)) [(⟨#[]⟩, inV 1), (⟨#[]⟩, inV 2)] [(⟨#[]⟩, inV 1)])) = _
    rw [cmpQ_self, thenI_0, vcmp_self, thenI_0, lexL, (cmpE_is (cmpF_is 8)).self, thenI_0]
    rfl
  rw [h]
  rfl
theorem cmp_wake2 : cmpT (scV 0 0 ⟨#[]⟩) (inV 1) = .tuple #[.int .i64 0, .int .i64 140] := by
  unfold cmpT
  rw [z_ok]
  rfl
theorem cmpQ_lt {a b : Int} (h : a < b) : cmpQ a b = -1 := if_pos h
theorem place_wake1 {X : Int × Int} {E : Int} (h : PlP [inV 1, inV 3, inV 3, inV 4] (inV 3) X E) : X = (1, 3) ∧ E = 0 := by
  have hr : Rise [inV 1, inV 3, inV 3, inV 4] := by
    refine rise_adj _ (fun t ht => ?_)
    match t, ht with
    | 0, _ => show cmpV (inV 1) (inV 3) ≤ 0; rw [cmp_in]; decide
    | 1, _ => show cmpV (inV 3) (inV 3) ≤ 0; rw [cmp_in]; decide
    | 2, _ => show cmpV (inV 3) (inV 4) ≤ 0; rw [cmp_in]; decide
    | t + 3, ht => simp at ht; omega
  have hok : ([inV 1, inV 3, inV 3, inV 4].all VT.ok && (inV 3).ok) = true := by simp [in_ok]
  rcases h with ⟨h, _⟩ | ⟨_, ⟨h, _⟩ | ⟨_, rfl, rfl⟩⟩
  · rw [hok] at h; cases h
  · exact absurd hr h
  · refine ⟨?_, rfl⟩
    unfold befN uptN
    simp only [List.countP_cons, List.countP_nil, cmp_in]
    decide
theorem place_wake2 {X : Int × Int} {E : Int} (h : PlP [inV 2, inV 1] (inV 1) X E) : X = (0, 0) ∧ E = 2 := by
  have hr : ¬ Rise [inV 2, inV 1] := fun h => by
    have := rise_at h 0 (by simp)
    have h2 : cmpV (inV 2) (inV 1) ≤ 0 := this
    rw [cmp_in] at h2
    revert h2
    decide
  have hok : ([inV 2, inV 1].all VT.ok && (inV 1).ok) = true := by simp [in_ok]
  rcases h with ⟨h, _⟩ | ⟨_, ⟨_, rfl, rfl⟩ | ⟨h, _⟩⟩
  · rw [hok] at h; cases h
  · exact ⟨rfl, rfl⟩
  · exact absurd h hr
theorem front_wake {A : Option Addr} {c : Nat} {X : VT} {E : Int} (h : FrP (lsV A 3 c [inV 1, inV 2, inV 3]) 2 X E) : X = lsV A 2 2 [inV 1, inV 2] ∧ E = 0 := by
  have hok : (lsV A 3 c [inV 1, inV 2, inV 3]).ok = true := ints_ok A 3 c [1, 2, 3] (by decide)
  rcases h with ⟨h, _⟩ | ⟨_, ⟨h, _⟩ | ⟨_, rfl, rfl⟩⟩
  · rw [hok] at h; cases h
  · exact absurd h (by decide)
  · refine ⟨?_, rfl⟩
    show (if (5 : Int) = 5 ∧ 2 < 3 then VT.mk 5 0 ⟨#[]⟩ A 2 2 none 0 0 [] ([inV 1, inV 2, inV 3].take 2) else lsV A 3 c [inV 1, inV 2, inV 3]) = _
    rw [if_pos ⟨rfl, by decide⟩]
    rfl
theorem sort_wake {A : Option Addr} {c : Nat} {L : List VT} (hp : L.Perm [lsV A 1 c [inV 2], inV 7, scV 1 0 ⟨#[]⟩]) (h : Rise L) : L = [scV 1 0 ⟨#[]⟩, inV 7, lsV A 1 c [inV 2]] := by
  refine rise_one ?_ h (hp.trans ?_)
  · have k1 : cmpV (scV 1 0 ⟨#[]⟩) (inV 7) = -1 := by unfold cmpV; rw [cmpF, show cmpQ (rankV (scV 1 0 ⟨#[]⟩)) (rankV (inV 7)) = -1 from rfl]; rfl
    have k2 : cmpV (scV 1 0 ⟨#[]⟩) (lsV A 1 c [inV 2]) = -1 := by unfold cmpV; rw [cmpF, show cmpQ (rankV (scV 1 0 ⟨#[]⟩)) (rankV (lsV A 1 c [inV 2])) = -1 from rfl]; rfl
    have k3 : cmpV (inV 7) (lsV A 1 c [inV 2]) = -1 := by unfold cmpV; rw [cmpF, show cmpQ (rankV (inV 7)) (rankV (lsV A 1 c [inV 2])) = -1 from rfl]; rfl
    simp [k1, k2, k3]
  · exact (List.Perm.swap _ _ _).trans (((List.Perm.swap _ _ _).cons _).trans ((List.Perm.swap _ _ _))) |>.trans (.refl _)
end Go.Proofs.YtndolgbbochpjaaDoor
