/-
  Layer 4, plain: values as trees, with the heads of their slices; which may be; how deep and how many.
-/
import Derived.Test.YtnldiemggabdkaaDoorUtfP
import Derived.Test.YtnldiemggabdkaaDoorW
namespace Go.Proofs.YtnldiemggabdkaaDoor
open Go.RowKit
set_option linter.unusedVariables false

/-- A value: kind, number, text, the head of its kids' slice, the head of its keys' slice, the keys, the kids. -/
inductive VT where
  | mk (k n : Int) (s : ByteArray) (cA : Option Addr) (cn cc : Nat) (kA : Option Addr) (kn kc : Nat) (keys : List ByteArray) (kids : List VT)
def VT.k : VT → Int | .mk k .. => k
def VT.n : VT → Int | .mk _ n .. => n
def VT.s : VT → ByteArray | .mk _ _ s .. => s
def VT.keys : VT → List ByteArray | .mk _ _ _ _ _ _ _ _ _ keys _ => keys
def VT.kids : VT → List VT | .mk _ _ _ _ _ _ _ _ _ _ kids => kids
def VT.cells : VT → List Value | .mk k n s cA cn cc kA kn kc _ _ => [.int .i64 k, .int .i64 n, .string s, .slice cA cn cc, .slice kA kn kc]
theorem VT.cells_len (T : VT) : T.cells.length = 5 := by cases T; rfl
def VT.hold (T : VT) : Bool := T.k == 5 || T.k == 6
theorem attach_map {α β : Type} (l : List α) (f : α → β) : (l.attach.map fun x => f x.1) = l.map f := by
  have := congrArg (List.map f) (List.attach_map_subtype_val l)
  rwa [List.map_map] at this
/-- How many nodes, how deep, in Lean's own recursion. -/
def VT.cnt : VT → Nat | .mk _ _ _ _ _ _ _ _ _ _ kids => 1 + (kids.attach.map fun x => x.1.cnt).sum
decreasing_by
  have := List.sizeOf_lt_of_mem x.2
  simp only [VT.mk.sizeOf_spec]
  omega
theorem cnt_mk (k n : Int) (s : ByteArray) (cA : Option Addr) (cn cc : Nat) (kA : Option Addr) (kn kc : Nat) (keys : List ByteArray) (kids : List VT) : (VT.mk k n s cA cn cc kA kn kc keys kids).cnt = 1 + (kids.map VT.cnt).sum := by
  rw [VT.cnt]
  congr 2
  exact attach_map kids VT.cnt
def maxL : List Nat → Nat := fun l => l.foldr max 0
def hN (b : Bool) : Nat := if b then 1 else 0
def VT.dep : VT → Nat | .mk k n s cA cn cc kA kn kc keys kids => hN (k == 5 || k == 6) + maxL (kids.attach.map fun x => x.1.dep)
decreasing_by
  have := List.sizeOf_lt_of_mem x.2
  simp only [VT.mk.sizeOf_spec]
  omega
theorem dep_mk (k n : Int) (s : ByteArray) (cA : Option Addr) (cn cc : Nat) (kA : Option Addr) (kn kc : Nat) (keys : List ByteArray) (kids : List VT) : (VT.mk k n s cA cn cc kA kn kc keys kids).dep = hN (k == 5 || k == 6) + maxL (kids.map VT.dep) := by
  rw [VT.dep]
  congr 2
  exact attach_map kids VT.dep
/-- Induction over the tree. -/
theorem VT.ind {P : VT → Prop} (h : ∀ k n s cA cn cc kA kn kc keys kids, (∀ x ∈ kids, P x) → P (.mk k n s cA cn cc kA kn kc keys kids)) : ∀ T, P T
  | .mk k n s cA cn cc kA kn kc keys kids => h k n s cA cn cc kA kn kc keys kids fun x hx => VT.ind h x
termination_by T => SizeOf.sizeOf T
decreasing_by
  have := List.sizeOf_lt_of_mem hx
  simp only [VT.mk.sizeOf_spec]
  omega
/-- Is a text in UTF-8? -/
def validS (s : ByteArray) : Bool := decide ((ptsL s.data.toList).2 = s.data.toList.length)
/-- Is the key with an index right, among keys? -/
def keyOK (l : List ByteArray) (i : Nat) : Bool := validS (l.getD i ⟨#[]⟩) && (i == 0 || Op.bytesLess (l.getD (i - 1) ⟨#[]⟩).toList (l.getD i ⟨#[]⟩).toList)
def keysB (l : List ByteArray) : Bool := (List.range l.length).all fun i => keyOK l i
theorem keysB_iff (l : List ByteArray) : keysB l = true ↔ ∀ i, i < l.length → keyOK l i = true := by
  unfold keysB; simp [List.all_eq_true]
/-- The shapes. -/
def shKnown (k : Int) : Bool := decide (1 ≤ k) && decide (k ≤ 6)
def shWide (k : Int) : Bool := k == 3
def shTop (k : Int) : Int := if k = 2 then 1 else 0
def shText (k : Int) : Bool := k == 4
def shKeys (k : Int) : Bool := k == 6
def shKids (k : Int) : Bool := k == 5 || k == 6
def numQ (wi : Bool) (top n : Int) : Bool := wi || (decide (0 ≤ n) && decide (n ≤ top))
def strQ (te : Bool) (s : ByteArray) : Bool := s.toList.isEmpty || (te && validS s)
def eleQ (ki : Bool) (cn : Nat) : Bool := cn == 0 || ki
def memQ (ke : Bool) (cn kn : Nat) (keys : List ByteArray) : Bool := if ke then kn == cn && keysB keys else kn == 0
def numB (k n : Int) : Bool := numQ (shWide k) (shTop k) n
def strB (k : Int) (s : ByteArray) : Bool := strQ (shText k) s
def eleB (k : Int) (cn : Nat) : Bool := eleQ (shKids k) cn
def memB (k : Int) (cn kn : Nat) (keys : List ByteArray) : Bool := memQ (shKeys k) cn kn keys
/-- Is a value right for its kind, apart from its kids? -/
def VT.fit : VT → Bool | .mk k n s _ cn _ _ kn _ keys _ => shKnown k && (numB k n && (strB k s && (eleB k cn && memB k cn kn keys)))
def VT.all : VT → Bool | .mk k n s cA cn cc kA kn kc keys kids => (VT.mk k n s cA cn cc kA kn kc keys kids).fit && (kids.attach.map fun x => x.1.all).all id
decreasing_by
  have := List.sizeOf_lt_of_mem x.2
  simp only [VT.mk.sizeOf_spec]
  omega
theorem all_mk (k n : Int) (s : ByteArray) (cA : Option Addr) (cn cc : Nat) (kA : Option Addr) (kn kc : Nat) (keys : List ByteArray) (kids : List VT) : (VT.mk k n s cA cn cc kA kn kc keys kids).all = ((VT.mk k n s cA cn cc kA kn kc keys kids).fit && kids.all VT.all) := by
  rw [VT.all]
  congr 1
  rw [attach_map kids VT.all, List.all_map]
  rfl
/-- May a value be? -/
def VT.ok (T : VT) : Bool := decide (T.dep ≤ 8) && (decide (T.cnt ≤ 256) && T.all)

/-- The nodes from the outside in, each with its depth. -/
def VT.nodesL : VT → Nat → List (Nat × VT) | .mk k n s cA cn cc kA kn kc keys kids, o => (o + hN (k == 5 || k == 6), .mk k n s cA cn cc kA kn kc keys kids) :: (kids.attach.map fun x => x.1.nodesL (o + hN (k == 5 || k == 6))).flatten
termination_by T => SizeOf.sizeOf T
decreasing_by
  have := List.sizeOf_lt_of_mem x.2
  simp only [VT.mk.sizeOf_spec]
  omega
theorem nodes_mk (k n : Int) (s : ByteArray) (cA : Option Addr) (cn cc : Nat) (kA : Option Addr) (kn kc : Nat) (keys : List ByteArray) (kids : List VT) (o : Nat) :
    (VT.mk k n s cA cn cc kA kn kc keys kids).nodesL o = (o + hN (k == 5 || k == 6), .mk k n s cA cn cc kA kn kc keys kids) :: kids.flatMap fun x => x.nodesL (o + hN (k == 5 || k == 6)) := by
  rw [VT.nodesL]
  congr 1
  rw [attach_map kids (fun x => x.nodesL (o + hN (k == 5 || k == 6))), List.flatMap_def]
/-- The greatest depth of some. -/
def mdL (L : List (Nat × VT)) : Nat := maxL (L.map (·.1))
/-- Do the nodes that came let the next one be? -/
def stepOK (L : List (Nat × VT)) (x : Nat × VT) : Bool := decide (mdL (L ++ [x]) ≤ 8) && (decide (L.length + 1 ≤ 256) && x.2.fit)
def passes : List (Nat × VT) → List (Nat × VT) → Bool
  | _, [] => true
  | L, x :: r => stepOK L x && passes (L ++ [x]) r
theorem passes_append : ∀ (a b L : List (Nat × VT)), passes L (a ++ b) = (passes L a && passes (L ++ a) b)
  | [], b, L => by simp [passes]
  | x :: a, b, L => by
    rw [List.cons_append, passes, passes, passes_append a b (L ++ [x]), Bool.and_assoc]
    simp
theorem maxL_append (a b : List Nat) : maxL (a ++ b) = max (maxL a) (maxL b) := by
  unfold maxL
  induction a with
  | nil => simp
  | cons x a ih => simp only [List.cons_append, List.foldr_cons, ih]; omega
theorem maxL_cons (x : Nat) (l : List Nat) : maxL (x :: l) = max x (maxL l) := rfl
theorem mdL_append (a b : List (Nat × VT)) : mdL (a ++ b) = max (mdL a) (mdL b) := by
  unfold mdL; rw [List.map_append, maxL_append]
theorem mdL_snoc (a : List (Nat × VT)) (x : Nat × VT) : mdL (a ++ [x]) = max (mdL a) x.1 := by
  rw [mdL_append]; unfold mdL maxL; simp
theorem passes_iff : ∀ (r L : List (Nat × VT)), r ≠ [] → (passes L r = true ↔ mdL (L ++ r) ≤ 8 ∧ (L ++ r).length ≤ 256 ∧ ∀ x ∈ r, x.2.fit = true)
  | [], _, h => absurd rfl h
  | [x], L, _ => by
    simp only [passes, stepOK, Bool.and_true, Bool.and_eq_true, decide_eq_true_eq, List.length_append, List.length_cons, List.length_nil, List.mem_singleton, forall_eq]
  | x :: y :: r, L, _ => by
    have ih := passes_iff (y :: r) (L ++ [x]) (by simp)
    rw [passes, Bool.and_eq_true, ih]
    simp only [stepOK, Bool.and_eq_true, decide_eq_true_eq, List.append_assoc, List.singleton_append, List.mem_cons]
    constructor
    · rintro ⟨⟨a, b, c⟩, d, e, f⟩
      exact ⟨d, e, fun z hz => by rcases hz with rfl | hz; exact c; exact f z hz⟩
    · rintro ⟨d, e, f⟩
      refine ⟨⟨?_, ?_, f x (.inl rfl)⟩, d, e, fun z hz => f z (.inr hz)⟩
      · rw [mdL_append] at d ⊢
        have : mdL (x :: y :: r) = max x.1 (mdL (y :: r)) := rfl
        have h2 : mdL [x] = x.1 := by simp [mdL, maxL]
        omega
      · simp only [List.length_append, List.length_cons] at e; omega
theorem nodes_ne (T : VT) (o : Nat) : T.nodesL o ≠ [] := by cases T; rw [nodes_mk]; simp
theorem nodes_len : ∀ (T : VT) (o : Nat), (T.nodesL o).length = T.cnt := by
  intro T
  induction T using VT.ind with
  | h k n s cA cn cc kA kn kc keys kids ih =>
    intro o
    rw [nodes_mk, cnt_mk, List.length_cons, List.length_flatMap]
    have : kids.map (fun x => (x.nodesL (o + hN (k == 5 || k == 6))).length) = kids.map VT.cnt := List.map_congr_left fun x hx => ih x hx _
    rw [this]
    omega
theorem maxL_add : ∀ (l : List Nat) (o : Nat), l ≠ [] → maxL (l.map fun x => o + x) = o + maxL l
  | [], _, h => absurd rfl h
  | [x], o, _ => by simp [maxL]
  | x :: y :: l, o, _ => by
    have := maxL_add (y :: l) o (by simp)
    have e2 : maxL (x :: y :: l) = max x (maxL (y :: l)) := rfl
    rw [List.map_cons, maxL_cons, this, e2]
    omega
theorem mdL_flat {α : Type} (f : α → List (Nat × VT)) : ∀ l : List α, mdL (l.flatMap f) = maxL (l.map fun x => mdL (f x))
  | [] => rfl
  | x :: l => by rw [List.flatMap_cons, mdL_append, mdL_flat f l]; rfl
theorem nodes_dep : ∀ (T : VT) (o : Nat), mdL (T.nodesL o) = o + T.dep := by
  intro T
  induction T using VT.ind with
  | h k n s cA cn cc kA kn kc keys kids ih =>
    intro o
    rw [nodes_mk, dep_mk]
    have e : mdL ((o + hN (k == 5 || k == 6), VT.mk k n s cA cn cc kA kn kc keys kids) :: kids.flatMap fun x => x.nodesL (o + hN (k == 5 || k == 6))) = max (o + hN (k == 5 || k == 6)) (mdL (kids.flatMap fun x => x.nodesL (o + hN (k == 5 || k == 6)))) := rfl
    rw [e, mdL_flat]
    have : kids.map (fun x => mdL (x.nodesL (o + hN (k == 5 || k == 6)))) = (kids.map VT.dep).map fun d => (o + hN (k == 5 || k == 6)) + d := by
      rw [List.map_map]
      exact List.map_congr_left fun x hx => ih x hx _
    rw [this]
    by_cases hk : kids = []
    · subst hk; simp [maxL]
    · rw [maxL_add _ _ (by simpa using hk)]
      omega
theorem nodes_fit : ∀ (T : VT) (o : Nat), (∀ x ∈ T.nodesL o, x.2.fit = true) ↔ T.all = true := by
  intro T
  induction T using VT.ind with
  | h k n s cA cn cc kA kn kc keys kids ih =>
    intro o
    rw [nodes_mk, all_mk, Bool.and_eq_true, List.all_eq_true]
    simp only [List.mem_cons, List.mem_flatMap]
    constructor
    · intro h
      exact ⟨h _ (.inl rfl), fun x hx => (ih x hx (o + hN (k == 5 || k == 6))).1 fun y hy => h y (.inr ⟨x, hx, hy⟩)⟩
    · rintro ⟨h1, h2⟩ y (rfl | ⟨x, hx, hy⟩)
      · exact h1
      · exact (ih x hx _).2 (h2 x hx) y hy
theorem passes_ok (T : VT) : passes [] (T.nodesL 0) = T.ok := by
  rw [Bool.eq_iff_iff, passes_iff _ _ (nodes_ne T 0), List.nil_append, nodes_dep, nodes_len, nodes_fit]
  unfold VT.ok
  simp
end Go.Proofs.YtnldiemggabdkaaDoor
