import Derived.Test.YtkbcgcokokddlaaGaa
import Derived.Lib.Bytealg
import Derived.Deep.RegionHeld3
import Derived.ArgAppend
import Derived.Lib.Hide
import Derived.Lib.SmallJoins
import Derived.RegionTactic
import Derived.BigRegion
import Derived.BigQuiet
import Derived.Deep.DeepCutAuto
import Derived.Deep.RegionWith
import Derived.Deep.QuietTactic
import Derived.WalkSmall
/-
  Layer 15, plain: a heap of rests: sinking, swapping, the root. No program in sight.
-/
namespace Go.Proofs.Ytkbcgcokokddlaa
set_option linter.unusedVariables false

def hdE : List EdS → EdS
  | [] => ⟨[], false, [], false, 0⟩
  | a :: _ => a
def LtK (x y : RsE) : Prop := LtE (hdE x.1) (hdE y.1) ∨ ((hdE x.1).k = (hdE y.1).k ∧ y.2 < x.2)
def LeK (x y : RsE) : Prop := ¬ LtK y x
theorem LtK.le {x y : RsE} (h : LtK x y) : LeK x y := by
  rintro (h' | ⟨h1, h2⟩)
  · rcases h with h | ⟨g1, g2⟩
    · exact h.turn h'
    · exact h'.ne g1.symm
  · rcases h with h | ⟨g1, g2⟩
    · exact h.ne h1.symm
    · omega
theorem LeK.refl (x : RsE) : LeK x x := by
  rintro (h | ⟨-, h⟩)
  · exact h.ne rfl
  · omega
theorem leK_iff {x y : RsE} : LeK x y ↔ LtE (hdE x.1) (hdE y.1) ∨ ((hdE x.1).k = (hdE y.1).k ∧ y.2 ≤ x.2) := by
  constructor
  · intro h
    rcases ltE_or (hdE x.1) (hdE y.1) with h' | h' | h'
    · exact .inl h'
    · exact .inr ⟨h', Nat.le_of_not_lt fun hh => h (.inr ⟨h'.symm, hh⟩)⟩
    · exact absurd (.inl h') h
  · rintro (h | ⟨h1, h2⟩)
    · exact LtK.le (.inl h)
    · rintro (h | ⟨-, h⟩)
      · exact h.ne h1.symm
      · omega
theorem LeK.trans {x y z : RsE} (h : LeK x y) (h' : LeK y z) : LeK x z := by
  rw [leK_iff] at *
  rcases h with h | ⟨h1, h2⟩
  · rcases h' with h' | ⟨g1, g2⟩
    · exact .inl (h.trans h')
    · exact .inl (h.key g1)
  · rcases h' with h' | ⟨g1, g2⟩
    · exact .inl (h'.key' h1.symm)
    · exact .inr ⟨h1.trans g1, by omega⟩
theorem ltR_k {x y : RsE} (h : LtR x y) : LtK x y := by
  obtain ⟨a, s, b, t, h1, h2, h3⟩ := h
  unfold LtK
  rw [h1, h2]
  exact h3
/-- Each one is not behind those below it, from place i0 on. -/
def HeapF (g : Nat → RsE) (n i0 : Nat) : Prop := ∀ j, 0 < j → j < n → i0 ≤ (j - 1) / 2 → LeK (g ((j - 1) / 2)) (g j)
/-- So, but for the one at place i, which sinks. -/
def Sink (g : Nat → RsE) (n i0 i : Nat) : Prop := (∀ j, 0 < j → j < n → i0 ≤ (j - 1) / 2 → (j - 1) / 2 ≠ i → LeK (g ((j - 1) / 2)) (g j)) ∧ (i0 < i → ∀ j, 0 < j → j < n → (j - 1) / 2 = i → LeK (g ((i - 1) / 2)) (g j))
def swp (g : Nat → RsE) (i j : Nat) : Nat → RsE := fun x => if x = j then g i else if x = i then g j else g x
theorem swp_j (g : Nat → RsE) (i j : Nat) : swp g i j j = g i := if_pos rfl
theorem swp_i {g : Nat → RsE} {i j : Nat} (h : i ≠ j) : swp g i j i = g j := by unfold swp; rw [if_neg h, if_pos rfl]
theorem swp_o {g : Nat → RsE} {i j x : Nat} (h : x ≠ i) (h' : x ≠ j) : swp g i j x = g x := by unfold swp; rw [if_neg h', if_neg h]
theorem sink_start {g : Nat → RsE} {n i0 : Nat} (h : HeapF g n (i0 + 1)) : Sink g n i0 i0 :=
  ⟨fun j h1 h2 h3 h4 => h j h1 h2 (by omega), fun h => absurd h (Nat.lt_irrefl _)⟩
theorem sink_leaf {g : Nat → RsE} {n i0 i : Nat} (h : Sink g n i0 i) (hn : n ≤ 2 * i + 1) : HeapF g n i0 :=
  fun j h1 h2 h3 => h.1 j h1 h2 h3 (by omega)
theorem sink_stay {g : Nat → RsE} {n i0 i j : Nat} (h : Sink g n i0 i) (hm : ∀ c, 0 < c → c < n → (c - 1) / 2 = i → LeK (g j) (g c)) (hs : ¬ LtK (g j) (g i)) : HeapF g n i0 := fun c h1 h2 h3 => by
  by_cases hc : (c - 1) / 2 = i
  · rw [hc]
    exact LeK.trans hs (hm c h1 h2 hc)
  · exact h.1 c h1 h2 h3 hc
theorem sink_swap {g : Nat → RsE} {n i0 i j : Nat} (h : Sink g n i0 i) (hi : i0 ≤ i) (hj : 0 < j) (hjn : j < n) (hp : (j - 1) / 2 = i) (hm : ∀ c, 0 < c → c < n → (c - 1) / 2 = i → LeK (g j) (g c)) (hs : LtK (g j) (g i)) : Sink (swp g i j) n i0 j := by
  have hij : i ≠ j := by omega
  constructor
  · intro c h1 h2 h3 h4
    by_cases hc : (c - 1) / 2 = i
    · rw [hc, swp_i hij]
      by_cases hcj : c = j
      · rw [hcj, swp_j]
        exact hs.le
      · rw [swp_o (by omega) hcj]
        exact hm c h1 h2 hc
    · have hcj : c ≠ j := fun e => hc (by rw [e]; exact hp)
      rw [swp_o hc h4]
      by_cases hci : c = i
      · subst hci
        rw [swp_i hij]
        exact h.2 (by omega) j hj hjn hp
      · rw [swp_o hci hcj]
        exact h.1 c h1 h2 h3 hc
  · intro _ c h1 h2 h3
    rw [hp, swp_i hij, swp_o (by omega) (by omega)]
    have h9 := h.1 c h1 h2 (by omega) (by omega)
    rw [h3] at h9
    exact h9
theorem heap_root {g : Nat → RsE} {n : Nat} (h : HeapF g n 0) : ∀ j, j < n → LeK (g 0) (g j) := by
  intro j
  induction j using Nat.strongRecOn with
  | ind j ih =>
    intro hj
    by_cases h0 : j = 0
    · rw [h0]
      exact LeK.refl _
    · exact LeK.trans (ih ((j - 1) / 2) (by omega) (by omega)) (h j (by omega) hj (Nat.zero_le _))
/-- The lesser one of two below. -/
theorem least_two {g : Nat → RsE} {n i : Nat} (h1 : 2 * i + 1 < n) : (∀ j, (j = 2 * i + 1 ∧ (n ≤ 2 * i + 2 ∨ ¬ LtK (g (2 * i + 2)) (g (2 * i + 1)))) ∨ (j = 2 * i + 2 ∧ j < n ∧ LtK (g (2 * i + 2)) (g (2 * i + 1))) → 0 < j ∧ j < n ∧ (j - 1) / 2 = i ∧ ∀ c, 0 < c → c < n → (c - 1) / 2 = i → LeK (g j) (g c)) := by
  rintro j (⟨rfl, h⟩ | ⟨rfl, h2, h⟩)
  · refine ⟨by omega, h1, by omega, fun c c1 c2 c3 => ?_⟩
    by_cases hc : c = 2 * i + 1
    · rw [hc]
      exact LeK.refl _
    · obtain rfl : c = 2 * i + 2 := by omega
      exact h.resolve_left (by omega)
  · refine ⟨by omega, h2, by omega, fun c c1 c2 c3 => ?_⟩
    by_cases hc : c = 2 * i + 2
    · rw [hc]
      exact LeK.refl _
    · obtain rfl : c = 2 * i + 1 := by omega
      exact h.le
/-- A list by places. -/
def atR (R : List RsE) (x : Nat) : RsE := R.getD x ([], 0)
def swapL (R : List RsE) (i j : Nat) : List RsE := (R.set i (atR R j)).set j (atR R i)
theorem atR_of {R : List RsE} {i : Nat} {a : RsE} (h : R[i]? = some a) : atR R i = a := by unfold atR; rw [List.getD_eq_getElem?_getD, h]; rfl
theorem atR_get {R : List RsE} {i : Nat} (h : i < R.length) : R[i]? = some (atR R i) := by
  rw [List.getElem?_eq_getElem h, atR_of (List.getElem?_eq_getElem h)]
theorem swapL_len (R : List RsE) (i j : Nat) : (swapL R i j).length = R.length := by unfold swapL; rw [List.length_set, List.length_set]
theorem swapL_perm {R : List RsE} {i j : Nat} (hi : i < R.length) (hj : j < R.length) : (swapL R i j).Perm R := by
  have h := List.set_set_perm hi hj
  unfold swapL
  rw [atR_of (List.getElem?_eq_getElem hi), atR_of (List.getElem?_eq_getElem hj)]
  exact h
theorem swapL_get {R : List RsE} {i j : Nat} (hi : i < R.length) (hj : j < R.length) (x : Nat) : (swapL R i j)[x]? = if x = j then some (atR R i) else if x = i then some (atR R j) else R[x]? := by
  unfold swapL
  rw [List.getElem?_set, List.length_set]
  by_cases h1 : x = j
  · rw [if_pos h1, if_pos h1.symm, if_pos hj]
  · rw [if_neg h1, if_neg (fun e => h1 e.symm), List.getElem?_set]
    by_cases h2 : x = i
    · rw [if_pos h2, if_pos h2.symm, if_pos hi]
    · rw [if_neg h2, if_neg (fun e => h2 e.symm)]
theorem swapL_at {R : List RsE} {i j : Nat} (hi : i < R.length) (hj : j < R.length) : atR (swapL R i j) = swp (atR R) i j := by
  funext x
  unfold swp
  have h := swapL_get hi hj x
  by_cases h1 : x = j
  · rw [if_pos h1] at h ⊢
    exact atR_of h
  · rw [if_neg h1] at h ⊢
    by_cases h2 : x = i
    · rw [if_pos h2] at h ⊢
      exact atR_of h
    · rw [if_neg h2] at h ⊢
      unfold atR
      rw [List.getD_eq_getElem?_getD, List.getD_eq_getElem?_getD, h]
theorem swapL_drop {R : List RsE} {i j n : Nat} (hi : i < n) (hj : j < n) (hn : n ≤ R.length) : (swapL R i j).drop n = R.drop n := by
  apply List.ext_getElem?
  intro x
  rw [List.getElem?_drop, List.getElem?_drop, swapL_get (by omega) (by omega), if_neg (by omega), if_neg (by omega)]
theorem heapF_eq {g g' : Nat → RsE} {n i0 : Nat} (h : HeapF g n i0) (he : ∀ x, x < n → g' x = g x) : HeapF g' n i0 := fun j h1 h2 h3 => by
  rw [he j h2, he _ (by omega)]
  exact h j h1 h2 h3
/-- The root of a heap comes first. -/
theorem heap_min {r : RsE} {R : List RsE} (h : HeapF (atR (r :: R)) (r :: R).length 0) : ∀ x ∈ R, ¬ LtR x r := by
  intro x hx hl
  obtain ⟨j, hj⟩ := List.mem_iff_getElem?.1 hx
  have hjl : j < R.length := (List.getElem?_eq_some_iff.1 hj).1
  have h9 := heap_root h (j + 1) (by rw [List.length_cons]; omega)
  rw [atR_of (i := 0) (a := r) rfl, atR_of (i := j + 1) (a := x) (by rw [List.getElem?_cons_succ]; exact hj)] at h9
  exact h9 (ltR_k hl)
/-- Another root: all below are as before. -/
theorem heap_turn {r r' : RsE} {R : List RsE} (h : HeapF (atR (r :: R)) (r :: R).length 0) : HeapF (atR (r' :: R)) (r' :: R).length 1 := fun j h1 h2 h3 => by
  have h9 := h j h1 h2 (Nat.zero_le _)
  have e : ∀ x, 0 < x → atR (r' :: R) x = atR (r :: R) x := fun x hx => by
    cases x with
    | zero => omega
    | succ x => rfl
  rw [e _ (by omega), e _ h1]
  exact h9
/-- The last in the root's place, and the last place gone. -/
theorem heap_cut {R : List RsE} {m : Nat} (hl : R.length = m + 1) (h : HeapF (atR R) (m + 1) 0) : HeapF (atR (swapL R 0 m)) m 1 := fun j h1 h2 h3 => by
  rw [swapL_at (by omega) (by omega), swp_o (by omega) (by omega), swp_o (by omega) (by omega)]
  exact h j h1 (by omega) (Nat.zero_le _)
theorem heap_popped {r : RsE} {R R' : List RsE} {m : Nat} (hl : (r :: R).length = m + 1) (hp : R'.Perm (swapL (r :: R) 0 m)) (hd : R'.drop m = (swapL (r :: R) 0 m).drop m) : (R'.take m).Perm R := by
  have hlast : (swapL (r :: R) 0 m).drop m = [r] := by
    have h1 : (swapL (r :: R) 0 m)[m]? = some r := by rw [swapL_get (by omega) (by omega), if_pos rfl]; rfl
    have h2 : (swapL (r :: R) 0 m).length = m + 1 := by rw [swapL_len, hl]
    have h3 := List.drop_eq_getElem_cons (l := swapL (r :: R) 0 m) (i := m) (by omega)
    rw [h3, (List.getElem?_eq_some_iff.1 h1).2, List.drop_eq_nil_of_le (by omega)]
  have h1 : (R'.take m ++ [r]).Perm (r :: R) := by
    rw [← hlast, ← hd, List.take_append_drop]
    exact hp.trans (swapL_perm (by omega) (by omega))
  exact List.Perm.cons_inv ((List.perm_append_comm.symm.trans (by simpa using h1)) : (r :: R'.take m).Perm (r :: R))
end Go.Proofs.Ytkbcgcokokddlaa
/-
  Layer 15: edits and rests as they lie, the queue's memory.
-/
namespace Go.Proofs.Ytkbcgcokokddlaa
open Go.RowKit
set_option linter.unusedVariables false

/-- An edit as it lies. -/
structure EdT where
  k : PcT
  put : Bool
  v : PcT
  b : Bool
  n : Int
def EdT.cells (x : EdT) : List Value := [.slice x.k.A x.k.n x.k.c, .bool x.put, .slice x.v.A x.v.n x.v.c, .bool x.b, .int .i64 x.n]
def EdT.agg (x : EdT) : Value := .agg #[.slice x.k.A x.k.n x.k.c, .bool x.put, .slice x.v.A x.v.n x.v.c, .bool x.b, .int .i64 x.n]
def EdT.s (x : EdT) : EdS := ⟨x.k.l, x.put, x.v.l, x.b, x.n⟩
structure EdT.Ok (w : World) (B : Nat) (x : EdT) : Prop where
  key : x.k.Ok w B
  val : x.v.Ok w B
  num : -9223372036854775808 ≤ x.n ∧ x.n ≤ 9223372036854775807
theorem EdT.Ok.later {w w' : World} {B : Nat} {x : EdT} (h : x.Ok w B) (hb : Below B w w') : x.Ok w' B := ⟨h.key.later hb, h.val.later hb, h.num⟩
theorem EdT.Ok.more {w : World} {B B' : Nat} {x : EdT} (h : x.Ok w B) (hB : B ≤ B') : x.Ok w B' := ⟨h.key.more hB, h.val.more hB, h.num⟩
/-- A row of edits as it lies. -/
structure EsT where
  A : Option Addr
  n : Nat
  c : Nat
  E : List EdT
def EsT.s (X : EsT) : List EdS := X.E.map EdT.s
structure EsT.Lie (w : World) (B : Nat) (X : EsT) : Prop where
  row : Shows w B 5 X.A X.n (X.E.flatMap EdT.cells)
  all : ∀ x ∈ X.E, x.Ok w B
  nil : X.A = none → X.c = 0
  fit : X.n ≤ X.c
  most : X.c ≤ maxLen
theorem EsT.Lie.later {w w' : World} {B : Nat} {X : EsT} (h : X.Lie w B) (hb : Below B w w') : X.Lie w' B := ⟨h.row.below hb, fun x hx => (h.all x hx).later hb, h.nil, h.fit, h.most⟩
theorem EsT.Lie.more {w : World} {B B' : Nat} {X : EsT} (h : X.Lie w B) (hB : B ≤ B') : X.Lie w B' := ⟨h.row.more hB, fun x hx => (h.all x hx).more hB, h.nil, h.fit, h.most⟩
theorem EsT.Lie.len {w : World} {B : Nat} {X : EsT} (h : X.Lie w B) : X.E.length = X.n := by
  have := h.row.1
  rw [flatN_len EdT.cells 5 (fun _ => rfl)] at this
  omega
/-- An edit's cells. -/
theorem ed_at {w : World} {B n : Nat} {A : Option Addr} {L : List EdT} (h : Shows w B 5 A n (L.flatMap EdT.cells)) {i : Nat} (hi : i < n) : ∃ b off x, A = some ⟨b, off, none⟩ ∧ b < B ∧ L[i]? = some x ∧
    w.cell? ⟨b, off + i * 5, none⟩ = some (.slice x.k.A x.k.n x.k.c) ∧ w.cell? ⟨b, off + i * 5 + 1, none⟩ = some (.bool x.put) ∧ w.cell? ⟨b, off + i * 5 + 2, none⟩ = some (.slice x.v.A x.v.n x.v.c) ∧ w.cell? ⟨b, off + i * 5 + 3, none⟩ = some (.bool x.b) ∧ w.cell? ⟨b, off + i * 5 + 4, none⟩ = some (.int .i64 x.n) := by
  have hl : L.length = n := by have := h.1; rw [flatN_len EdT.cells 5 (fun _ => rfl)] at this; omega
  obtain ⟨b, off, rfl, hb, hc⟩ := h.2 (by omega)
  have hx : L[i]? = some (L[i]'(by omega)) := List.getElem?_eq_getElem (by omega)
  refine ⟨b, off, _, rfl, hb, hx, ?_, ?_, ?_, ?_, ?_⟩
  · exact hc (i * 5 + 0) _ ((flatN_at EdT.cells 5 (fun _ => rfl) L i _ hx 0 (by omega)).trans rfl)
  · exact hc (i * 5 + 1) _ ((flatN_at EdT.cells 5 (fun _ => rfl) L i _ hx 1 (by omega)).trans rfl)
  · exact hc (i * 5 + 2) _ ((flatN_at EdT.cells 5 (fun _ => rfl) L i _ hx 2 (by omega)).trans rfl)
  · exact hc (i * 5 + 3) _ ((flatN_at EdT.cells 5 (fun _ => rfl) L i _ hx 3 (by omega)).trans rfl)
  · exact hc (i * 5 + 4) _ ((flatN_at EdT.cells 5 (fun _ => rfl) L i _ hx 4 (by omega)).trans rfl)
/-- A rest as it lies. -/
structure RsT where
  r : EsT
  p : Nat
def RsT.cells (x : RsT) : List Value := [.slice x.r.A x.r.n x.r.c, .int .i64 x.p]
def RsT.s (x : RsT) : RsE := (x.r.s, x.p)
structure RsT.Ok (w : World) (B : Nat) (x : RsT) : Prop where
  lie : x.r.Lie w B
  some : x.r.E ≠ []
  num : x.p ≤ maxLen
theorem RsT.Ok.later {w w' : World} {B : Nat} {x : RsT} (h : x.Ok w B) (hb : Below B w w') : x.Ok w' B := ⟨h.lie.later hb, h.some, h.num⟩
/-- The queue's variable and its row of rests. -/
structure QMem (W : World) (q D B : Nat) (A : Option Addr) (c : Nat) (R : List RsT) : Prop where
  box : W.heap[q]? = some (.cells #[.slice A R.length c] 73 (0, 0))
  row : W.ownsRow D 75 2 (.slice A R.length c) R.length (R.flatMap RsT.cells)
  all : ∀ x ∈ R, x.Ok W B
  lowq : B ≤ q
  lowD : B ≤ D
/-- A rest's cells. -/
theorem rs_at {W : World} {D g n c : Nat} {L : List RsT} (h : W.ownsRow D 75 2 (.slice (some ⟨g, 0, none⟩) n c) n (L.flatMap RsT.cells)) {i : Nat} {x : RsT} (hx : L[i]? = some x) :
    W.cell? ⟨g, i * 2, none⟩ = some (.slice x.r.A x.r.n x.r.c) ∧ W.cell? ⟨g, i * 2 + 1, none⟩ = some (.int .i64 x.p) := by
  have hl : L.length = n := by have := h.1; rw [flatN_len RsT.cells 2 (fun _ => rfl)] at this; omega
  have hi : i < n := by have := (List.getElem?_eq_some_iff.1 hx).1; omega
  refine ⟨?_, ?_⟩
  · have h0 := flatN_at RsT.cells 2 (fun _ => rfl) L i x hx 0 (by omega)
    rw [Nat.add_zero] at h0
    exact (h.cellAt (i * 2) (by omega)).trans h0
  · exact (h.cellAt (i * 2 + 1) (by omega)).trans (flatN_at RsT.cells 2 (fun _ => rfl) L i x hx 1 (by omega))
theorem one_blk {W : World} {g : Nat} {a : Value} {t : TypeId} (h : W.heap[g]? = some (.cells #[a] t (0, 0))) : W.cell? ⟨g, 0, none⟩ = some a ∧ W.frozen? ⟨g, 0, none⟩ = false :=
  ⟨by rw [cell_of_row W g 0 #[a] t (0, 0) h]; rfl, frozen_of_row W g 0 #[a] t h⟩
set_option maxRecDepth 20000 in
theorem qlen_any (q n c : Nat) (A : Option Addr) (W : World) (h : W.heap[q]? = some (.cells #[.slice A n c] 73 (0, 0))) :
    Calls Try.prog 50 #[.pointer (some ⟨q, 0, none⟩)] W fun e W' => e = .returned (.int .i64 n) ∧ W = W' := by
  obtain ⟨h0, -⟩ := one_blk h
  clear h
  go_enter Try.func50, Try.ntmps50
  go_wp2
  refine bodyPost_ret (v := .int .i64 n) ?_ rfl ⟨rfl, rfl⟩
  simp [results, Try.results50, go_sem, *]
end Go.Proofs.Ytkbcgcokokddlaa
/-
  bytes.Compare at any two rows of bytes.
-/
namespace Go.Proofs.Ytkbcgcokokddlaa
open Go.RowKit
set_option linter.unusedVariables false

theorem load_bytes {P : Program} {w : World} : ∀ (l : List UInt8) (a : Addr) (acc : ByteArray), (∀ j x, l[j]? = some x → w.cell? (a.add j) = some (bv x)) →
    (Extern.Bytes.loadBytes a l.length acc).run P w = .ok ⟨acc.data ++ l.toArray⟩ w
  | [], a, acc, _ => by simp [Extern.Bytes.loadBytes]
  | x :: l, a, acc, h => by
    have h0 : w.cell? a = some (bv x) := by
      have := h 0 x rfl
      simpa [Addr.add] using this
    have ih := load_bytes (P := P) (w := w) l (a.add 1) (acc.push x) (fun j y hy => by
      have := h (j + 1) y (by simpa using hy)
      have e : (a.add 1).add j = a.add (j + 1) := by
        unfold Addr.add
        by_cases hj : j = 0
        · subst hj; simp
        · simp [hj]; omega
      rw [e]; exact this)
    have hx : ((x.toNat : Int).toNat).toUInt8 = x := by simp
    unfold bv at h0
    simp only [List.length_cons, Extern.Bytes.loadBytes, Sem.run_bind, run_load, h0, Result.andThen, hx]
    rw [ih]
    congr 1
    apply ByteArray.ext
    simp
theorem run_bytesOf {P : Program} {w : World} {B n c : Nat} {A : Option Addr} {l : List UInt8} (h : Bytes w B A n l) : (Extern.Bytes.bytesOf (.slice A n c)).run P w = .ok ⟨l.toArray⟩ w := by
  rcases A with _ | a
  · have hz : l = [] := by
      rcases Nat.eq_zero_or_pos n with h0 | h0
      · exact List.eq_nil_of_length_eq_zero (by rw [h.len, h0])
      · obtain ⟨_, _, e1, _⟩ := h.2 h0
        cases e1
    subst hz
    rfl
  · have hl := load_bytes (P := P) (w := w) l a .empty (fun j x hj => by
      have h0 : 0 < n := by
        rw [← h.len]
        exact Nat.lt_of_le_of_lt (Nat.zero_le j) (List.getElem?_eq_some_iff.1 hj).1
      obtain ⟨b, off, e1, _, h2⟩ := h.2 h0
      injection e1 with e1
      subst e1
      rw [addr_add]
      exact h2 j _ (by rw [List.getElem?_map, hj]; rfl))
    rw [h.len] at hl
    have e : Extern.Bytes.bytesOf (.slice (some a) n c) = Extern.Bytes.loadBytes a n .empty := rfl
    rw [e, hl]
    simp
theorem cmpL_lib : ∀ l m : List UInt8, Lib.compareBytes l m = cmpL l m
  | [], [] => rfl
  | [], _ :: _ => rfl
  | _ :: _, [] => rfl
  | x :: l, y :: m => by
    unfold Lib.compareBytes cmpL
    rw [cmpL_lib l m]
    rfl
theorem run_compareSlices {P : Program} {w : World} {B1 B2 n1 n2 c1 c2 : Nat} {A1 A2 : Option Addr} {l1 l2 : List UInt8} (h1 : Bytes w B1 A1 n1 l1) (h2 : Bytes w B2 A2 n2 l2) :
    (Extern.BytealgCompare.compare #[.slice A1 n1 c1, .slice A2 n2 c2]).run P w = .ok (.int .i64 (cmpL l1 l2)) w := by
  change Sem.run P (do pure (goInt (Extern.BytealgCompare.cmp (← Extern.Bytes.bytesOf (.slice A1 n1 c1)) (← Extern.Bytes.bytesOf (.slice A2 n2 c2))))) w = _
  simp only [Sem.run_bind, Sem.run_pure, Result.andThen, run_bytesOf h1, run_bytesOf h2]
  rw [Lib.cmp_eq, cmpL_lib]
  rfl
set_option maxRecDepth 20000 in
set_option maxHeartbeats 1000000 in
theorem bcompare_any (A1 A2 : Option Addr) (n1 c1 n2 c2 : Nat) (l1 l2 : List UInt8) (B1 B2 : Nat) (w : World) (h1 : Bytes w B1 A1 n1 l1) (h2 : Bytes w B2 A2 n2 l2) :
    Calls Try.prog 38 #[.slice A1 n1 c1, .slice A2 n2 c2] w fun e w' => e = .returned (.int .i64 (cmpL l1 l2)) ∧ w' = w := by
  have hr := run_compareSlices (P := Try.prog) (c1 := c1) (c2 := c2) h1 h2
  clear h1 h2
  go_enter Try.func38, Try.ntmps38
  go_wp2
  rw [run_callFunc_extern Try.func48 (by kernel_rfl) (by kernel_rfl) (by kernel_rfl) (e := Extern.BytealgCompare.compare) (by kernel_rfl), hr]
  simp only [Result.andThen]
  rw [Oper.upon_value]
  go_wp2
  go_ret
  exact ⟨rfl, rfl⟩
end Go.Proofs.Ytkbcgcokokddlaa
/-
  append onto a row of the call's own, the source given by 'Shows': nil, empty or not. No program in sight.
-/
namespace Go.Proofs.Ytkbcgcokokddlaa
open Go.RowKit

section
variable {P : Program} (w : World)

theorem run_append_shows (base : Nat) (t ty e : TypeId) (i : TypeInfo) (z : Value) (size bytes : Nat) (ht : P.underlying t = some (.slice e)) (hi : P.info? e = some i) (hz : i.zero = some z)
    (hsize : i.size = size) (hby : i.bytes = bytes) (hzs : z.cells.size = size) (hsz : 0 < size)
    (v : Value) (n : Nat) (xs : List Value) (hown : w.ownsRow base e size v n xs)
    (B : Nat) (A : Option Addr) (m c : Nat) (news : List Value) (hr : Shows w B size A m news) (h1 : ∀ u ∈ news, u.oneCell' = true)
    (h63 : n + m ≤ maxLen) (hbytes : (n + m) * bytes ≤ 140737488355328) (hbase : base ≤ w.heap.size) :
    ∃ A' c' w', (Builtin.append_ #[t, t] ty #[v, .slice A m c]).run P w = .ok (.slice A' (n + m) c') w' ∧ w'.ownsRow base e size (.slice A' (n + m) c') (n + m) (xs ++ news) ∧ w.grownBy w' v.ownBlock ∧ Below base w w' := by
  have key : ∃ v' w', (Builtin.append_ #[t, t] ty #[v, .slice A m c]).run P w = .ok v' w' ∧ w'.ownsRow base e size v' (n + m) (xs ++ news) ∧ w.grownBy w' v.ownBlock := by
    rcases A with _ | ad
    · have hm : m = 0 := by
        rcases Nat.eq_zero_or_pos m with h0 | h0
        · exact h0
        · obtain ⟨_, _, h, _⟩ := hr.2 h0
          cases h
      subst hm
      have hn : news = [] := List.eq_nil_of_length_eq_zero (by simpa using hr.1)
      subst hn
      refine ⟨v, w, ?_, by simpa using hown, World.grownBy.refl w _⟩
      rcases hown.2 with ⟨rfl, rfl⟩ | ⟨g, cap, cur, rfl, _, _, hnc, _⟩
      · simp [Builtin.append_, run_underlying ht, sizeOf, typeInfo, hi, Builtin.lenOf, Builtin.firstCells]
      · simp [Builtin.append_, run_underlying ht, sizeOf, typeInfo, hi, Builtin.lenOf, Builtin.firstCells, hnc, storeCells]
    · have hcells : ∀ j u, news[j]? = some u → w.cell? (ad.add j) = some u := by
        intro j u hu
        rcases Nat.eq_zero_or_pos m with h0 | h0
        · subst h0
          have hn : news = [] := List.eq_nil_of_length_eq_zero (by simpa using hr.1)
          subst hn
          simp at hu
        · obtain ⟨b, off, h, _, hc⟩ := hr.2 h0
          injection h with h
          subst h
          rw [addr_add]
          exact hc j u hu
      obtain ⟨v', w', hrun, h2, h3, _, _⟩ := run_append_own_at (P := P) w base t ty e i z size bytes ht hi hz hsize hby hzs hsz v n xs hown ad m c news hr.1 hcells h1 h63 hbytes hbase
      exact ⟨v', w', hrun, h2, h3⟩
  obtain ⟨v', w', hrun, h2, h3⟩ := key
  obtain ⟨A', c', rfl, _, _⟩ := own_form h2
  exact ⟨A', c', w', hrun, h2, h3, (Below.refl base w).grown h3 hbase fun k hk => (hown.lt k hk).1⟩

theorem wp_append_shows {o : Oper} {a : Act} {K : Act → World → Prop} {Q : Exit → Act → World → Prop} (s x : Operand) (t : TypeId)
    (ho : o.op = .call { callee := .builtin .append, args := #[s, x], argTypes := #[t, t] })
    (base : Nat) (e : TypeId) (i : TypeInfo) (z : Value) (size bytes : Nat) (ht : P.underlying t = some (.slice e)) (hi : P.info? e = some i) (hz : i.zero = some z)
    (hsize : i.size = size) (hby : i.bytes = bytes) (hzs : z.cells.size = size) (hsz : 0 < size)
    (v : Value) (n : Nat) (xs : List Value) (hs : a.eval s = v) (hown : w.ownsRow base e size v n xs)
    (B : Nat) (A : Option Addr) (m c : Nat) (news : List Value) (hx : a.eval x = .slice A m c) (hr : Shows w B size A m news) (h1 : ∀ u ∈ news, u.oneCell' = true)
    (h63 : n + m ≤ maxLen) (hbytes : (n + m) * bytes ≤ 140737488355328) (hbase : base ≤ w.heap.size)
    (h : ∀ A' c' w', w'.ownsRow base e size (.slice A' (n + m) c') (n + m) (xs ++ news) → w.grownBy w' v.ownBlock → Below base w w' → K (a.put o.dst (.slice A' (n + m) c')) w') :
    o.wp P a w K Q := by
  obtain ⟨A', c', w', hrun, h2, h3, h4⟩ := run_append_shows (P := P) w base t o.type e i z size bytes ht hi hz hsize hby hzs hsz v n xs hown B A m c news hr h1 h63 hbytes hbase
  unfold Oper.wp execOp
  simp only [ho, resolve, invoke, builtin, Sem.run_bind, Sem.run_pure, Result.andThen_ok, List.map_toArray, List.map_cons, List.map_nil, hs, hx, hrun]
  exact h A' c' w' h2 h3 h4

theorem wpList_append_shows {ops : Array Oper} {rest : List Oper} {o : Oper} {a : Act} {Q : Exit → Act → World → Prop} (hgd : o.guard = none) (s x : Operand) (t : TypeId)
    (ho : o.op = .call { callee := .builtin .append, args := #[s, x], argTypes := #[t, t] })
    (base : Nat) (e : TypeId) (i : TypeInfo) (z : Value) (size bytes : Nat) (ht : P.underlying t = some (.slice e)) (hi : P.info? e = some i) (hz : i.zero = some z)
    (hsize : i.size = size) (hby : i.bytes = bytes) (hzs : z.cells.size = size) (hsz : 0 < size)
    (v : Value) (n : Nat) (xs : List Value) (hs : a.eval s = v) (hown : w.ownsRow base e size v n xs)
    (B : Nat) (A : Option Addr) (m c : Nat) (news : List Value) (hx : a.eval x = .slice A m c) (hr : Shows w B size A m news) (h1 : ∀ u ∈ news, u.oneCell' = true)
    (h63 : n + m ≤ maxLen) (hbytes : (n + m) * bytes ≤ 140737488355328) (hbase : base ≤ w.heap.size)
    (h : ∀ A' c' w', w'.ownsRow base e size (.slice A' (n + m) c') (n + m) (xs ++ news) → w.grownBy w' v.ownBlock → Below base w w' → wpList P ops Q rest (a.put o.dst (.slice A' (n + m) c')) w') :
    wpList P ops Q (o :: rest) a w :=
  wpList_plain hgd fun _ hK => wp_append_shows w s x t ho base e i z size bytes ht hi hz hsize hby hzs hsz v n xs hs hown B A m c news hx hr h1 h63 hbytes hbase fun A' c' w' h2 h3 h4 => hK _ _ (h A' c' w' h2 h3 h4)

theorem step_append_shows {ops : Array Oper} {o : Oper} {a : Act} {K : Act → World → Prop} {Q : Exit → Act → World → Prop} {E : Prop} (hgd : o.guard = none) (s x : Operand) (t : TypeId)
    (ho : o.op = .call { callee := .builtin .append, args := #[s, x], argTypes := #[t, t] })
    (base : Nat) (e : TypeId) (i : TypeInfo) (z : Value) (size bytes : Nat) (ht : P.underlying t = some (.slice e)) (hi : P.info? e = some i) (hz : i.zero = some z)
    (hsize : i.size = size) (hby : i.bytes = bytes) (hzs : z.cells.size = size) (hsz : 0 < size)
    (v : Value) (n : Nat) (xs : List Value) (hs : a.eval s = v) (hown : w.ownsRow base e size v n xs)
    (B : Nat) (A : Option Addr) (m c : Nat) (news : List Value) (hx : a.eval x = .slice A m c) (hr : Shows w B size A m news) (h1 : ∀ u ∈ news, u.oneCell' = true)
    (h63 : n + m ≤ maxLen) (hbytes : (n + m) * bytes ≤ 140737488355328) (hbase : base ≤ w.heap.size)
    (h : ∀ A' c' w', w'.ownsRow base e size (.slice A' (n + m) c') (n + m) (xs ++ news) → w.grownBy w' v.ownBlock → Below base w w' → K (a.put o.dst (.slice A' (n + m) c')) w') :
    if Region.wanted o (yielded ops a.tmps) = true then Oper.wp P o a w K Q else E := by
  have hw : Region.wanted o (yielded ops a.tmps) = true := by simp [Region.wanted, hgd]
  rw [if_pos hw]
  exact wp_append_shows w s x t ho base e i z size bytes ht hi hz hsize hby hzs hsz v n xs hs hown B A m c news hx hr h1 h63 hbytes hbase h
end
end Go.Proofs.Ytkbcgcokokddlaa
/-
  A region that draws its order, walked by hand, operation by operation: taken first (wanted, or passed over), or carried out; steps that hand on an unnamed world with what it holds. No program in sight.
-/
namespace Go.Proofs.Ytkbcgcokokddlaa
open Go.RowKit
set_option linter.unusedVariables false

section
variable {P : Program} {l : List Oper} {Q : Exit → Act → World → Prop} {S : World → Prop}

/-- Operation i is wanted, and yields in every world that meets S: it is taken first. -/
theorem rg_in (i : Nat) {oi : Oper} {v : Value} {fuel : Nat} {listed : Array Bool} {a : Act} {w : World} (hi : l[i]? = some oi)
    (hs : Region.noSelect l.toArray = true) (hf : Region.free .any l.toArray listed i = true) (hr : (Region.ready .any l.toArray listed).contains i = true)
    (hw : Region.wanted oi (yielded l.toArray a.tmps) = true) (hQ : ∀ c a w, Q (.panic c) (a.put oi.dst v) w → Q (.panic c) a w) (hS : S w) (hv : ∀ w, S w → (execOp a.eval oi).run P w = .ok (.value v) w)
    (h : wpAnyH P .any l.toArray Q S fuel (listed.setIfInBounds i true) (a.put oi.dst v) w) : wpAnyH P .any l.toArray Q S (fuel + 1) listed a w :=
  wpAnyH_take (by rw [List.getElem?_toArray]; exact hi) hs hf hr hQ (.inl ⟨hw, hv⟩) hS h
/-- Operation i is not wanted: it is passed over. -/
theorem rg_off (i : Nat) {oi : Oper} {fuel : Nat} {listed : Array Bool} {a : Act} {w : World} (hi : l[i]? = some oi)
    (hs : Region.noSelect l.toArray = true) (hf : Region.free .any l.toArray listed i = true) (hr : (Region.ready .any l.toArray listed).contains i = true)
    (hw : Region.wanted oi (yielded l.toArray a.tmps) = false) (hQ : ∀ c a w, Q (.panic c) (a.put oi.dst undef) w → Q (.panic c) a w) (hS : S w)
    (h : wpAnyH P .any l.toArray Q S fuel (listed.setIfInBounds i true) (a.put oi.dst undef) w) : wpAnyH P .any l.toArray Q S (fuel + 1) listed a w :=
  wpAnyH_take (by rw [List.getElem?_toArray]; exact hi) hs hf hr hQ (.inr ⟨hw, rfl⟩) hS h
/-- Operation i alone may come up: it is carried out. -/
theorem rg_do (i : Nat) {oi : Oper} {fuel : Nat} {listed : Array Bool} {a : Act} {w : World} (hi : l[i]? = some oi)
    (hr : Region.ready .any l.toArray listed = [i])
    (hw : Region.wanted oi (yielded l.toArray a.tmps) = true)
    (h : ∀ K' : Act → World → Prop, Shut (∀ a w, S w → (S w → wpAnyH P .any l.toArray Q S fuel (listed.setIfInBounds i true) a w) → K' a w) → Oper.wp P oi a w K' Q) : wpAnyH P .any l.toArray Q S (fuel + 1) listed a w :=
  wpAnyH_ready hr (by simp) (AllReadyH.cons (by rw [List.getElem?_toArray]; exact hi) (fun K hK => by rw [if_pos hw]; exact h K hK) AllReadyH.nil)
/-- One of several that may come up. -/
theorem rg_cons {i : Nat} {oi : Oper} {rs : List Nat} {fuel : Nat} {listed : Array Bool} {a : Act} {w : World} (hi : l[i]? = some oi)
    (hw : Region.wanted oi (yielded l.toArray a.tmps) = true)
    (h : ∀ K' : Act → World → Prop, Shut (∀ a w, S w → (S w → wpAnyH P .any l.toArray Q S fuel (listed.setIfInBounds i true) a w) → K' a w) → Oper.wp P oi a w K' Q)
    (hs : AllReadyH P .any l.toArray Q S fuel listed a w rs) : AllReadyH P .any l.toArray Q S fuel listed a w (i :: rs) :=
  AllReadyH.cons (by rw [List.getElem?_toArray]; exact hi) (fun K hK => by rw [if_pos hw]; exact h K hK) hs
end

section
variable {P : Program} {w w' : World} {o : Oper} {a : Act} {K : Act → World → Prop} {Q : Exit → Act → World → Prop}
theorem blk_later {g : Nat} {x : Obj} (h : w.heap[g]? = some x) (hb : Below w.heap.size w w') : w'.heap[g]? = some x := (hb.block g (Array.getElem?_eq_some_iff.1 h).1).trans h
theorem blk_lt {g : Nat} {x : Obj} (h : w.heap[g]? = some x) : g < w.heap.size := (Array.getElem?_eq_some_iff.1 h).1
theorem blk_other {g : Nat} {x : Obj} {r : Option Nat} (h : w.heap[g]? = some x) (hg : w.grownBy w' r) (hne : some g ≠ r) : w'.heap[g]? = some x := (hg.block g (blk_lt h) hne).trans h
theorem own_later {base : Nat} {e : TypeId} {size n : Nat} {v : Value} {xs : List Value} (h : w.ownsRow base e size v n xs) (hb : Below w.heap.size w w') : w'.ownsRow base e size v n xs :=
  h.kept (row := none) ⟨hb.os, hb.tape, hb.output, hb.size, fun k hk _ => hb.block k hk⟩ (by cases hv : v.ownBlock; exact .inl rfl; exact .inr (by simp))
/-- A row of one element type and a block of another are apart. -/
theorem own_blk_ne {base g : Nat} {e t : TypeId} {size n : Nat} {v : Value} {xs : List Value} {C : Array Value} {fr : Nat × Nat} (h : w.ownsRow base e size v n xs) (hb : w.heap[g]? = some (.cells C t fr)) (hne : t ≠ e) : some g ≠ v.ownBlock := by
  rcases h.2 with ⟨rfl, _⟩ | ⟨k, cap, cur, rfl, _, hk, _⟩
  · simp [Value.ownBlock]
  · intro hg
    simp only [Value.ownBlock, Option.some.injEq] at hg
    subst hg
    rw [hb] at hk
    simp only [Option.some.injEq, Obj.cells.injEq] at hk
    exact hne hk.2.1
/-- '[]T{}'. -/
theorem step_row0 (t e : TypeId) (ho : o.op = .buildSlice t 0 #[]) (base size : Nat) (i : TypeInfo) (ht : P.underlying t = some (.slice e)) (hi : P.info? e = some i) (hbase : base ≤ w.heap.size)
    (h : ∀ g w', w.heap.size ≤ g → w'.ownsRow base e size (.slice (some ⟨g, 0, none⟩) 0 0) 0 [] → Below w.heap.size w w' → K (a.put o.dst (.slice (some ⟨g, 0, none⟩) 0 0)) w') : o.wp P a w K Q := by
  have h0 := h w.heap.size (w.alloc (.cells #[] e)) (Nat.le_refl _) (World.ownsRow_lit w #[] 0 hbase (Nat.zero_le _) (by simp)) ((Below.refl _ _).alloc (Nat.le_refl _) _)
  have hrun : (Instr.buildSlice t 0 #[]).run P w = .ok (.slice (some ⟨w.heap.size, 0, none⟩) 0 0) (w.alloc (.cells #[] e)) := by
    simp only [Instr.buildSlice, sizeOf, typeInfo]
    simp [run_underlying ht, hi, Instr.fill, newRow, Result.andThen]
    rw [Array.eq_empty_of_size_eq_zero (xs := Array.map (fun x => (default : Value)) (Array.range 0)) (by simp)]
  unfold Oper.wp execOp
  simp only [ho, List.map_toArray, List.map_nil, Sem.run_bind, Sem.run_pure, hrun, Result.andThen_ok]
  exact h0
/-- A new variable. -/
theorem step_alloc (t : TypeId) (ho : o.op = .alloc t) (i : TypeInfo) (z : Value) (hi : P.info? t = some i) (hz : i.zero = some z)
    (h : ∀ g w', w.heap.size ≤ g → w'.heap[g]? = some (.cells z.cells t) → Below w.heap.size w w' → K (a.put o.dst (.pointer (some ⟨g, 0, none⟩))) w') : o.wp P a w K Q := by
  have h0 := h w.heap.size (w.alloc (.cells z.cells t)) (Nat.le_refl _) (heap_alloc_new w _) ((Below.refl _ _).alloc (Nat.le_refl _) _)
  have hrun : (Instr.alloc t true (.tuple #[])).run P w = .ok (.pointer (some ⟨w.heap.size, 0, none⟩)) (w.alloc (.cells z.cells t)) := by
    simp only [Instr.alloc, zeroValue, typeInfo, newVar]
    simp [hi, hz, newRow, Result.andThen]
  unfold Oper.wp execOp
  simp only [ho, Sem.run_bind, Sem.run_pure, hrun, Result.andThen_ok]
  exact h0
/-- append onto '[]T{}'. -/
theorem step_app0 (s x : Operand) (t : TypeId) (ho : o.op = .call { callee := .builtin .append, args := #[s, x], argTypes := #[t, t] })
    (base : Nat) (e : TypeId) (i : TypeInfo) (z : Value) (size bytes : Nat) (ht : P.underlying t = some (.slice e)) (hi : P.info? e = some i) (hz : i.zero = some z)
    (hsize : i.size = size) (hby : i.bytes = bytes) (hzs : z.cells.size = size) (hsz : 0 < size)
    (g : Nat) (hs : a.eval s = .slice (some ⟨g, 0, none⟩) 0 0) (hown : w.ownsRow base e size (.slice (some ⟨g, 0, none⟩) 0 0) 0 [])
    (B : Nat) (A : Option Addr) (m c : Nat) (news : List Value) (hx : a.eval x = .slice A m c) (hr : Shows w B size A m news) (h1 : ∀ u ∈ news, u.oneCell' = true)
    (h63 : m ≤ maxLen) (hbytes : m * bytes ≤ 140737488355328) (hbase : base ≤ w.heap.size)
    (h : ∀ A' c' w', w'.ownsRow base e size (.slice A' m c') m news → Below w.heap.size w w' → K (a.put o.dst (.slice A' m c')) w') : o.wp P a w K Q := by
  rcases Nat.eq_zero_or_pos m with rfl | hm
  · obtain rfl : news = [] := List.eq_nil_of_length_eq_zero (by simpa using hr.1)
    have hrun : (Builtin.append_ #[t, t] o.type #[.slice (some ⟨g, 0, none⟩) 0 0, .slice A 0 c]).run P w = .ok (.slice (some ⟨g, 0, none⟩) 0 0) w := by
      cases A <;> simp [Builtin.append_, run_underlying ht, sizeOf, typeInfo, hi, Builtin.lenOf, Builtin.firstCells, loadCells, loadCellsFrom, storeCells, Result.andThen]
    unfold Oper.wp execOp
    simp only [ho, resolve, invoke, builtin, Sem.run_bind, Sem.run_pure, Result.andThen_ok, List.map_toArray, List.map_cons, List.map_nil, hs, hx, hrun]
    exact h _ _ w hown (Below.refl _ _)
  · obtain ⟨b, off, rfl, hb, hc⟩ := hr.2 hm
    obtain ⟨v', w', hrun, r1, r2⟩ := run_append_arg_grows (P := P) w t o.type e i z size bytes ht hi hz hsize hby hzs hsz ⟨g, 0, none⟩ 0 0 [] (by simp) (by simp) ⟨b, off, none⟩ m c news hr.1 (fun j u hu => by rw [addr_add]; exact hc j u hu) (by omega) (by omega) (by simpa using hbytes)
    unfold Oper.wp
    simp [execOp, ho, resolve, invoke, builtin, hs, hx, hrun, Result.andThen]
    have r1' : w'.ownsRow base e size v' m news := by
      simpa using own_base r1 hbase
    obtain ⟨A', c', rfl, _, _⟩ := own_form r1'
    exact h A' c' w' r1' ⟨r2.os, r2.tape, r2.output, r2.size, fun k hk => r2.block k hk (by simp)⟩
end
end Go.Proofs.Ytkbcgcokokddlaa
/-
  Layer 15: the queue's Less.
-/
namespace Go.Proofs.Ytkbcgcokokddlaa
open Go.RowKit
set_option linter.unusedVariables false
set_option linter.unusedSimpArgs false

theorem two_blk {W : World} {g : Nat} {a b : Value} {t : TypeId} (h : W.heap[g]? = some (.cells #[a, b] t (0, 0))) : (W.cell? ⟨g, 0, none⟩ = some a ∧ W.cell? ⟨g, 1, none⟩ = some b) ∧ W.frozen? ⟨g, 0, none⟩ = false ∧ W.frozen? ⟨g, 1, none⟩ = false :=
  ⟨⟨by rw [cell_of_row W g 0 #[a, b] t (0, 0) h]; rfl, by rw [cell_of_row W g 1 #[a, b] t (0, 0) h]; rfl⟩, frozen_of_row W g 0 #[a, b] t h, frozen_of_row W g 1 #[a, b] t h⟩
theorem rs_head {W : World} {B : Nat} {x : RsT} (h : x.Ok W B) : ∃ b off e, x.r.A = some ⟨b, off, none⟩ ∧ b < B ∧ x.r.E[0]? = some e ∧ W.cell? ⟨b, off, none⟩ = some (.slice e.k.A e.k.n e.k.c) ∧ e.Ok W B ∧ 0 < x.r.n ∧ hdE x.s.1 = e.s := by
  have hl := h.lie.len
  have hp : 0 < x.r.E.length := List.length_pos_iff.2 h.some
  obtain ⟨b, off, e, h1, h2, h3, h4, -⟩ := ed_at h.lie.row (i := 0) (by omega)
  rw [Nat.zero_mul, Nat.add_zero] at h4
  refine ⟨b, off, e, h1, h2, h3, h4, h.lie.all e (List.mem_of_getElem? h3), by omega, ?_⟩
  obtain ⟨⟨A, n, c, E⟩, p⟩ := x
  cases E with
  | nil => simp at h3
  | cons a E =>
    have : a = e := by simpa using h3
    rw [← this]
    rfl
theorem two_new (W : World) (o1 o2 : Obj) : Below W.heap.size W ((W.alloc o1).alloc o2).drew ∧ ((W.alloc o1).alloc o2).drew.heap[W.heap.size]? = some o1 ∧ ((W.alloc o1).alloc o2).drew.heap[W.heap.size + 1]? = some o2 := by
  have h1 := bel_alloc (Below.refl W.heap.size W) o1
  have h2 := bel_alloc (Below.refl (W.alloc o1).heap.size (W.alloc o1)) o2
  have e := heap_alloc_new (W.alloc o1) o2
  rw [World.size_alloc] at e
  exact ⟨(bel_alloc h1 o2).drew, blk_later (heap_alloc_new W o1) h2.drew, e⟩
def LesP (x y : RsT) (W : World) (e : Ending) (W' : World) : Prop := ∃ z : Bool, e = .returned (.bool z) ∧ (z = true ↔ LtK x.s y.s) ∧ Below W.heap.size W W'
set_option maxRecDepth 20000 in
set_option maxHeartbeats 4000000 in
theorem qless_any (q g D B c : Nat) (R : List RsT) (W : World) (hq : QMem W q D B (some ⟨g, 0, none⟩) c R) (hB : B ≤ W.heap.size) (i j : Nat) (x y : RsT) (hx : R[i]? = some x) (hy : R[j]? = some y) :
    Calls Try.prog 72 #[.pointer (some ⟨q, 0, none⟩), .int .i64 i, .int .i64 j] W (LesP x y W) := by
  obtain ⟨h0, -⟩ := one_blk hq.box
  obtain ⟨x0, x1⟩ := rs_at hq.row hx
  obtain ⟨y0, y1⟩ := rs_at hq.row hy
  have hil := (List.getElem?_eq_some_iff.1 hx).1
  have hjl := (List.getElem?_eq_some_iff.1 hy).1
  have HX := Lib.hid (hq.all x (List.mem_of_getElem? hx))
  have HY := Lib.hid (hq.all y (List.mem_of_getElem? hy))
  have hil' : (i : Int) < (R.length : Int) := by omega
  have hjl' : (j : Int) < (R.length : Int) := by omega
  have hql : q < W.heap.size := (Array.getElem?_eq_some_iff.1 hq.box).1
  have hgl : g < W.heap.size := (hq.row.lt g rfl).2
  have hqn : q ≠ W.heap.size := by omega
  have hgn : g ≠ W.heap.size := by omega
  clear hq hx hy hil hjl
  go_enter Try.func72, Try.ntmps72
  go_upto_region 1 with fail
  go_cut [7, 8] (fun s k wx => ∃ gx gy : Nat, s = .pointer (some ⟨gx, 0, none⟩) ∧ k = .pointer (some ⟨gy, 0, none⟩) ∧ Below W.heap.size W wx ∧ wx.heap[gx]? = some (.cells #[.slice x.r.A x.r.n x.r.c, .int .i64 x.p] 75 (0, 0)) ∧ wx.heap[gy]? = some (.cells #[.slice y.r.A y.r.n y.r.c, .int .i64 y.p] 75 (0, 0)))
  case first =>
    go_region
    all_goals (go_wp2_with fail; go_meet)
    case rel => exact ⟨_, _, rfl, rfl, (two_new W _ _).1, (two_new W _ _).2.1, (two_new W _ _).2.2⟩
    case rel => exact ⟨_, _, rfl, rfl, (two_new W _ _).1, (two_new W _ _).2.2, (two_new W _ _).2.1⟩
  case rest =>
    obtain ⟨gx, gy, rfl, rfl, hb, hgx, hgy⟩ := hcut
    obtain ⟨⟨u0, u1⟩, -⟩ := two_blk hgx
    obtain ⟨⟨v0, v1⟩, -⟩ := two_blk hgy
    obtain ⟨bx, ox, ex, hax, hbx, -, kx, hex, hnx, hdx⟩ := rs_head (HX.out.later (hb.mono hB))
    obtain ⟨b2, o2, ey, hay, hby, -, ky, hey, hny, hdy⟩ := rs_head (HY.out.later (hb.mono hB))
    rw [hax] at u0
    rw [hay] at v0
    have hnx' : (0 : Int) < (x.r.n : Int) := by omega
    have hny' : (0 : Int) < (y.r.n : Int) := by omega
    obtain ⟨z, hz⟩ : ∃ z, cmpL ex.k.l ey.k.l = z := ⟨_, rfl⟩
    have hfl := fun (j : Nat) => bcompare_any ex.k.A ey.k.A ex.k.n ex.k.c ey.k.n ey.k.c ex.k.l ey.k.l B B (wc.drewN j) (hex.key.here.below (below_drewN (Below.refl B wc) j)) (hey.key.here.below (below_drewN (Below.refl B wc) j))
    rw [hz] at hfl
    have HDX := Lib.hid hdx
    have HDY := Lib.hid hdy
    have HZ := Lib.hid hz
    have HB := Lib.hid hb
    clear h0 x0 x1 y0 y1 hdx hdy hz hgx hgy hax hay hex hey hnx hny hbx hby hil' hjl' hql hgl hqn hgn hb
    go_upto_region 2 with fail
    go_quiet ((go_at_call 38; exact Calls.quiet_of_same (hfl _)))
    clear hfl
    go_upto_region 3 with fail
    have hiff : LtK x.s y.s ↔ z < 0 ∨ (z = 0 ∧ y.p < x.p) := by
      unfold LtK LtE
      rw [HDX.out, HDY.out]
      show cmpL ex.k.l ey.k.l < 0 ∨ (ex.k.l = ey.k.l ∧ y.p < x.p) ↔ _
      rw [HZ.out]
      refine or_congr Iff.rfl (and_congr ⟨fun h => ?_, fun h => ?_⟩ Iff.rfl)
      · rw [← HZ.out, h, cmpL_self]
      · exact cmpL_zero _ _ (HZ.out.trans h)
    by_cases hz0 : z = 0
    · have HI : Hid (LtK x.s y.s ↔ y.p < x.p) := Lib.hid (by rw [hiff, hz0]; simp)
      subst hz0
      clear hiff
      go_wp2
      refine bodyPost_ret (v := .bool (decide ((y.p : Int) < (x.p : Int)))) (by simp [results, Try.results72, go_sem, *]) rfl (Exists.intro _ ⟨rfl, ?_, below_drewN HB.out _⟩)
      rw [HI.out, decide_eq_true_iff]
      try omega
    · have HI : Hid (LtK x.s y.s ↔ z < 0) := Lib.hid (by rw [hiff]; simp [hz0])
      clear hiff
      have hb0 : ((z : Int) == (0 : Int)) = false := by simpa using hz0
      go_wp2
      refine bodyPost_ret (v := .bool (decide (z < 0))) (by simp [results, Try.results72, go_sem, *]) rfl (Exists.intro _ ⟨rfl, ?_, below_drewN HB.out _⟩)
      rw [HI.out, decide_eq_true_iff]
      try omega
end Go.Proofs.Ytkbcgcokokddlaa
/-
  Layer 15: the queue's Swap.
-/
namespace Go.Proofs.Ytkbcgcokokddlaa
open Go.RowKit
set_option linter.unusedVariables false
set_option linter.unusedSimpArgs false

theorem set_flat2 {α : Type} (f : α → List Value) (d j : Nat) (hf : ∀ x, (f x).length = d) (hj : j < d) (L : List α) (i : Nat) (hi : i < L.length) (y : α) (v : Value) (hy : f y = (f (L[i]'hi)).set j v) : (L.flatMap f).set (i * d + j) v = (L.set i y).flatMap f := by
  have e : L = L.take i ++ (L[i]'hi) :: L.drop (i + 1) := by rw [← List.drop_eq_getElem_cons hi, List.take_append_drop]
  have hl : (L.take i).length = i := by rw [List.length_take]; omega
  have e2 : L.set i y = L.take i ++ y :: L.drop (i + 1) := by rw [List.set_eq_take_append_cons_drop, if_pos hi]
  rw [e2]
  conv => lhs; rw [e]
  rw [List.flatMap_append, List.flatMap_cons, List.flatMap_append, List.flatMap_cons, hy]
  have hP : ((L.take i).flatMap f).length = i * d := by rw [flatN_len f d hf, hl]
  rw [List.set_append_right _ _ (by rw [hP]; omega), hP, Nat.add_sub_cancel_left, List.set_append_left _ _ (by rw [hf]; exact hj)]
theorem rs_put {L : List RsT} {i : Nat} (hi : i < L.length) (y : RsT) : ((L.flatMap RsT.cells).set (i * 2) (.slice y.r.A y.r.n y.r.c)).set (i * 2 + 1) (.int .i64 y.p) = (L.set i y).flatMap RsT.cells := by
  have h1 := set_flat2 RsT.cells 2 0 (fun _ => rfl) (by omega) L i hi ⟨y.r, (L[i]'hi).p⟩ (.slice y.r.A y.r.n y.r.c) rfl
  have h2 := set_flat2 RsT.cells 2 1 (fun _ => rfl) (by omega) (L.set i ⟨y.r, (L[i]'hi).p⟩) i (by rw [List.length_set]; exact hi) y (.int .i64 y.p) (by rw [List.getElem_set_self]; rfl)
  rw [Nat.add_zero] at h1
  rw [h1, h2, List.set_set]
def put4 (W : World) (g i j : Nat) (a b c d : Value) : World := (((W.setCell ⟨g, i * 2, none⟩ a).setCell ⟨g, i * 2 + 1, none⟩ b).setCell ⟨g, j * 2, none⟩ c).setCell ⟨g, j * 2 + 1, none⟩ d
theorem grown_trans {W W1 W2 : World} {g : Nat} (h : W.grownBy W1 (some g)) (h' : W1.grownBy W2 (some g)) : W.grownBy W2 (some g) := h.trans h'
theorem QMem.q_ne {W : World} {q g D B c : Nat} {R : List RsT} (h : QMem W q D B (some ⟨g, 0, none⟩) c R) : q ≠ g := fun e => own_blk_ne h.row h.box (by decide) (by rw [e]; rfl)
theorem swp_done {W : World} {q g D B c : Nat} {R : List RsT} (hq : QMem W q D B (some ⟨g, 0, none⟩) c R) {i j : Nat} {x y : RsT} (hx : R[i]? = some x) (hy : R[j]? = some y) :
    W.grownBy (put4 W g i j (.slice y.r.A y.r.n y.r.c) (.int .i64 y.p) (.slice x.r.A x.r.n x.r.c) (.int .i64 x.p)) (some g) ∧ QMem (put4 W g i j (.slice y.r.A y.r.n y.r.c) (.int .i64 y.p) (.slice x.r.A x.r.n x.r.c) (.int .i64 x.p)) q D B (some ⟨g, 0, none⟩) c ((R.set i y).set j x) := by
  have hil := (List.getElem?_eq_some_iff.1 hx).1
  have hjl := (List.getElem?_eq_some_iff.1 hy).1
  obtain ⟨r1, g1⟩ := World.ownsRow.stored hq.row (i * 2) (.slice y.r.A y.r.n y.r.c)
  obtain ⟨r2, g2⟩ := World.ownsRow.stored r1 (i * 2 + 1) (.int .i64 y.p)
  obtain ⟨r3, g3⟩ := World.ownsRow.stored r2 (j * 2) (.slice x.r.A x.r.n x.r.c)
  obtain ⟨r4, g4⟩ := World.ownsRow.stored r3 (j * 2 + 1) (.int .i64 x.p)
  rw [rs_put hil y, rs_put (by rw [List.length_set]; exact hjl) x] at r4
  have hg := ((g1.trans g2).trans g3).trans g4
  have hgB : B ≤ g := Nat.le_trans hq.lowD (hq.row.lt g rfl).1
  have hbb : Below B W (put4 W g i j (.slice y.r.A y.r.n y.r.c) (.int .i64 y.p) (.slice x.r.A x.r.n x.r.c) (.int .i64 x.p)) :=
    ((((Below.refl B W).setCell (p := ⟨g, i * 2, none⟩) hgB _).setCell (p := ⟨g, i * 2 + 1, none⟩) hgB _).setCell (p := ⟨g, j * 2, none⟩) hgB _).setCell (p := ⟨g, j * 2 + 1, none⟩) hgB _
  have hlen : ((R.set i y).set j x).length = R.length := by rw [List.length_set, List.length_set]
  refine ⟨hg, ?_, by rw [hlen]; exact r4, fun z hz => ?_, hq.lowq, hq.lowD⟩
  · rw [hlen]
    exact blk_other hq.box hg (fun e => hq.q_ne (Option.some.inj e))
  · have hz' : z ∈ R := by
      rcases List.mem_or_eq_of_mem_set hz with hz | rfl
      · rcases List.mem_or_eq_of_mem_set hz with hz | rfl
        · exact hz
        · exact List.mem_of_getElem? hy
      · exact List.mem_of_getElem? hx
    exact (hq.all z hz').later hbb
def SwpP (q g D B c : Nat) (R' : List RsT) (W : World) (e : Ending) (W' : World) : Prop := e = .returned (.tuple #[]) ∧ W.grownBy W' (some g) ∧ QMem W' q D B (some ⟨g, 0, none⟩) c R'
theorem QMem.drew {W : World} {q D B c : Nat} {A : Option Addr} {R : List RsT} (h : QMem W q D B A c R) : QMem W.drew q D B A c R :=
  ⟨h.box, h.row.drew, fun x hx => (h.all x hx).later (Below.refl B W).drew, h.lowq, h.lowD⟩
theorem grown_drew {W W' : World} {r : Option Nat} (h : W.grownBy W' r) : W.grownBy W'.drew r := ⟨h.os, h.tape, h.output, h.size, h.block⟩
set_option maxRecDepth 20000 in
set_option maxHeartbeats 4000000 in
theorem qswap_any (q g D B c : Nat) (R : List RsT) (W : World) (hq : QMem W q D B (some ⟨g, 0, none⟩) c R) (i j : Nat) (x y : RsT) (hx : R[i]? = some x) (hy : R[j]? = some y) :
    Calls Try.prog 74 #[.pointer (some ⟨q, 0, none⟩), .int .i64 i, .int .i64 j] W (SwpP q g D B c ((R.set i y).set j x) W) := by
  have HD := Lib.hid (swp_done hq hx hy)
  obtain ⟨h0, -⟩ := one_blk hq.box
  obtain ⟨x0, x1⟩ := rs_at hq.row hx
  obtain ⟨y0, y1⟩ := rs_at hq.row hy
  have f0 := hq.row.frozenAt (i * 2)
  have f1 := hq.row.frozenAt (i * 2 + 1)
  have f2 := hq.row.frozenAt (j * 2)
  have f3 := hq.row.frozenAt (j * 2 + 1)
  have hil := (List.getElem?_eq_some_iff.1 hx).1
  have hjl := (List.getElem?_eq_some_iff.1 hy).1
  have hil' : (i : Int) < (R.length : Int) := by omega
  have hjl' : (j : Int) < (R.length : Int) := by omega
  by_cases hij : i = j
  · subst hij
    obtain rfl : x = y := by rw [hx] at hy; exact Option.some.inj hy
    clear hq hx hy hil hjl
    go_enter Try.func74, Try.ntmps74
    go_upto_region 0 with fail
    go_region
    all_goals (go_wp2_with fail)
    all_goals go_end0
    all_goals exact ⟨rfl, grown_drew HD.out.1, HD.out.2.drew⟩
  · have hne1 : i * 2 ≠ j * 2 := by omega
    have hne2 : i * 2 ≠ j * 2 + 1 := by omega
    have hne3 : i * 2 + 1 ≠ j * 2 := by omega
    have hne4 : j * 2 ≠ i * 2 := by omega
    have hne5 : j * 2 + 1 ≠ i * 2 := by omega
    have hne6 : j * 2 ≠ i * 2 + 1 := by omega
    have hji : ¬ j = i := fun e => hij e.symm
    clear hq hx hy hil hjl
    go_enter Try.func74, Try.ntmps74
    go_upto_region 0 with fail
    go_region
    all_goals (go_wp2_with fail)
    all_goals go_end0
    all_goals exact ⟨rfl, grown_drew HD.out.1, HD.out.2.drew⟩
end Go.Proofs.Ytkbcgcokokddlaa
/-
  Layer 15: the queue's Pop; what its functions leave alone.
-/
namespace Go.Proofs.Ytkbcgcokokddlaa
open Go.RowKit
set_option linter.unusedVariables false
set_option linter.unusedSimpArgs false

/-- Nothing turned but two blocks. -/
structure Tu (q g : Nat) (W W' : World) : Prop where
  os : W'.os = W.os
  tape : W'.tape = W.tape
  output : W'.output = W.output
  size : W.heap.size ≤ W'.heap.size
  block : ∀ k, k < W.heap.size → k ≠ q → k ≠ g → W'.heap[k]? = W.heap[k]?
theorem Tu.refl (q g : Nat) (W : World) : Tu q g W W := ⟨rfl, rfl, rfl, Nat.le_refl _, fun _ _ _ _ => rfl⟩
theorem Tu.trans {q g : Nat} {W W1 W2 : World} (h : Tu q g W W1) (h' : Tu q g W1 W2) : Tu q g W W2 :=
  ⟨h'.os.trans h.os, h'.tape.trans h.tape, h'.output.trans h.output, Nat.le_trans h.size h'.size, fun k h1 h2 h3 => (h'.block k (Nat.lt_of_lt_of_le h1 h.size) h2 h3).trans (h.block k h1 h2 h3)⟩
theorem Tu.of_g {q g : Nat} {W W' : World} (h : W.grownBy W' (some g)) : Tu q g W W' := ⟨h.os, h.tape, h.output, h.size, fun k h1 _ h3 => h.block k h1 (fun e => h3 (Option.some.inj e))⟩
theorem Tu.of_q {q g : Nat} {W W' : World} (h : W.grownBy W' (some q)) : Tu q g W W' := ⟨h.os, h.tape, h.output, h.size, fun k h1 h2 _ => h.block k h1 (fun e => h2 (Option.some.inj e))⟩
theorem Tu.of_below {q g : Nat} {W W' : World} (h : Below W.heap.size W W') : Tu q g W W' := ⟨h.os, h.tape, h.output, h.size, fun k h1 _ _ => h.block k h1⟩
theorem Tu.below {q g B : Nat} {W W' : World} (h : Tu q g W W') (hB : B ≤ W.heap.size) (hq : B ≤ q) (hg : B ≤ g) : Below B W W' := ⟨h.os, h.tape, h.output, h.size, fun k hk => h.block k (by omega) (by omega) (by omega)⟩
theorem Tu.drew {q g : Nat} {W W' : World} (h : Tu q g W W') : Tu q g W W'.drew := ⟨h.os, h.tape, h.output, h.size, h.block⟩
theorem QMem.later {W W' : World} {q D B c : Nat} {A : Option Addr} {R : List RsT} (h : QMem W q D B A c R) (hB : B ≤ W.heap.size) (hb : Below W.heap.size W W') : QMem W' q D B A c R :=
  ⟨blk_later h.box hb, own_later h.row hb, fun x hx => (h.all x hx).later (hb.mono hB), h.lowq, h.lowD⟩
/-- The queue's variable set to a shorter slice of the same row. -/
theorem QMem.popped {W : World} {q g D B c : Nat} {R : List RsT} {x : RsT} (h : QMem W q D B (some ⟨g, 0, none⟩) c (R ++ [x])) : QMem (W.setCell ⟨q, 0, none⟩ (.slice (some ⟨g, 0, none⟩) R.length c)) q D B (some ⟨g, 0, none⟩) c R := by
  have hg := h.q_ne
  have hl : (R ++ [x]).length = R.length + 1 := by rw [List.length_append]; rfl
  have hr := h.row
  rw [hl, List.flatMap_append, List.flatMap_singleton] at hr
  have hr' := ownsRow_pop (by rw [flatN_len RsT.cells 2 (fun _ => rfl)]) hr
  have hgr : W.grownBy (W.setCell ⟨q, 0, none⟩ (.slice (some ⟨g, 0, none⟩) R.length c)) (some q) := by
    have hb := (Below.refl 0 W).setCell (p := ⟨q, 0, none⟩) (Nat.zero_le _) (.slice (some ⟨g, 0, none⟩) R.length c)
    exact ⟨hb.os, hb.tape, hb.output, hb.size, fun j _ hj => Below.heap_setCell W ⟨q, 0, none⟩ _ j (fun e => hj (by rw [e]))⟩
  refine ⟨?_, hr'.kept hgr (.inr (fun e => hg (Option.some.inj e).symm)), fun z hz => (h.all z (List.mem_append_left _ hz)).later ((Below.refl B W).setCell (p := ⟨q, 0, none⟩) h.lowq _), h.lowq, h.lowD⟩
  rw [heap_setCell_same W q 0 _ _ _ h.box]
  rfl
def PopP (q g D B c : Nat) (R : List RsT) (x : RsT) (W : World) (e : Ending) (W' : World) : Prop := e = .returned (.iface 75 (.agg #[.slice x.r.A x.r.n x.r.c, .int .i64 x.p])) ∧ Tu q g W W' ∧ QMem W' q D B (some ⟨g, 0, none⟩) c R
set_option maxRecDepth 20000 in
set_option maxHeartbeats 4000000 in
theorem qpop_any (q g D B c : Nat) (R : List RsT) (x : RsT) (W : World) (hq : QMem W q D B (some ⟨g, 0, none⟩) c (R ++ [x])) (hB : B ≤ W.heap.size) :
    Calls Try.prog 73 #[.pointer (some ⟨q, 0, none⟩)] W (PopP q g D B c R x W) := by
  have hl : (R ++ [x]).length = R.length + 1 := by rw [List.length_append]; rfl
  have hP0 := hq.popped
  have hT0 : Tu q g W (W.setCell ⟨q, 0, none⟩ (.slice (some ⟨g, 0, none⟩) R.length c)) := Tu.of_q (by
    have hb := (Below.refl 0 W).setCell (p := ⟨q, 0, none⟩) (Nat.zero_le _) (.slice (some ⟨g, 0, none⟩) R.length c)
    exact ⟨hb.os, hb.tape, hb.output, hb.size, fun j _ hj => Below.heap_setCell _ ⟨q, 0, none⟩ _ j (fun e => hj (by rw [e]))⟩)
  have hgr := bel_alloc (Below.refl (W.setCell ⟨q, 0, none⟩ (.slice (some ⟨g, 0, none⟩) R.length c)).heap.size (W.setCell ⟨q, 0, none⟩ (.slice (some ⟨g, 0, none⟩) R.length c))) (.cells #[.slice x.r.A x.r.n x.r.c, .int .i64 x.p] 75)
  have HP := Lib.hid (hP0.later (by rw [size_set]; exact hB) hgr)
  have HT := Lib.hid (hT0.trans (Tu.of_below (q := q) (g := g) hgr))
  obtain ⟨h0, hf⟩ := one_blk hq.box
  obtain ⟨x0, x1⟩ := rs_at (i := R.length) (x := x) hq.row (by rw [List.getElem?_append_right (Nat.le_refl _), Nat.sub_self]; rfl)
  have hql : q < W.heap.size := (Array.getElem?_eq_some_iff.1 hq.box).1
  have hgl : g < W.heap.size := (hq.row.lt g rfl).2
  have hqn : q ≠ W.heap.size := by omega
  have hgn : g ≠ W.heap.size := by omega
  have hnc : R.length + 1 ≤ c ∧ c ≤ maxLen := by
    have h := hq.row
    rw [hl] at h
    rcases h.2 with ⟨e, _⟩ | ⟨g', cap, cur, e, _, _, h1, h2, _⟩
    · cases e
    · cases e
      exact ⟨h1, h2⟩
  have hm : c ≤ 9223372036854775807 := by have := hnc.2; unfold maxLen at this; exact this
  have hn1 := hnc.1
  rw [hl] at h0
  have w1 : wrap64 (((R.length + 1 : Nat) : Int) - 1) = (R.length : Int) := by unfold wrap64; omega
  have i1 : (R.length : Int) < ((R.length + 1 : Nat) : Int) := by omega
  have i2 : (R.length : Int) ≤ (c : Int) := by omega
  have i3 : (R.length : Int) ≤ ((R.length + 1 : Nat) : Int) := by omega
  clear hq hl hgr hP0 hT0 hnc
  go_enter Try.func73, Try.ntmps73
  go_wp2
  refine bodyPost_ret (v := .iface 75 (.agg #[.slice x.r.A x.r.n x.r.c, .int .i64 x.p])) ?_ rfl ⟨rfl, HT.out, HP.out⟩
  simp [results, Try.results73, go_sem, *]
end Go.Proofs.Ytkbcgcokokddlaa
