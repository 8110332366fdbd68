/-
  Layer 10, plain: files, where they lie, how long they are, which may be. No program in sight.
-/
import Derived.Test.YthoenmggjbojoaaW
import Derived.Test.YthoenmggjbojoaaSt
namespace Go.Proofs.Ythoenmggjbojoaa
open Go.RowKit
set_option linter.unusedVariables false

/-- A row of bytes, with its head. -/
structure PcT where
  A : Option Addr
  n : Nat
  c : Nat
  l : List UInt8
def PcT.val (p : PcT) : Value := .slice p.A p.n p.c
structure PcT.Ok (w : World) (B : Nat) (p : PcT) : Prop where
  here : Bytes w B p.A p.n p.l
  nil : p.A = none → p.c = 0
  fits : p.n ≤ p.c
  most : p.c ≤ maxLen
theorem PcT.Ok.later {w w' : World} {B : Nat} {p : PcT} (h : p.Ok w B) (hb : Below B w w') : p.Ok w' B := ⟨h.here.below hb, h.nil, h.fits, h.most⟩
theorem PcT.Ok.more {w : World} {B B' : Nat} {p : PcT} (h : p.Ok w B) (hB : B ≤ B') : p.Ok w B' := ⟨h.here.more hB, h.nil, h.fits, h.most⟩
theorem PcT.Ok.len {w : World} {B : Nat} {p : PcT} (h : p.Ok w B) : p.l.length = p.n := h.here.len
def joinP (L : List PcT) : List UInt8 := L.flatMap (·.l)
theorem joinP_nil : joinP [] = [] := rfl
theorem joinP_cons (p : PcT) (L : List PcT) : joinP (p :: L) = p.l ++ joinP L := by unfold joinP; rw [List.flatMap_cons]
theorem joinP_append (L M : List PcT) : joinP (L ++ M) = joinP L ++ joinP M := by unfold joinP; rw [List.flatMap_append]
theorem joinP_snoc (L : List PcT) (p : PcT) : joinP (L ++ [p]) = joinP L ++ p.l := by rw [joinP_append, joinP_cons, joinP_nil, List.append_nil]
theorem joinP_take {L : List PcT} {k : Nat} {p : PcT} (h : L[k]? = some p) : joinP (L.take (k + 1)) = joinP (L.take k) ++ p.l := by
  rw [List.take_add_one, h]
  exact joinP_snoc _ _

/-- A file, with the heads of its rows. -/
structure FileT where
  F : PcT
  lA : Option Addr
  ln : Nat
  lc : Nat
  L : List PcT
  fuse : Int
  fault : Int
  off : Bool
def FileT.agg (X : FileT) : Value := .agg #[X.F.val, .slice X.lA X.ln X.lc, .int .i64 X.fuse, .int .i64 X.fault, .bool X.off]
def FileT.all (X : FileT) : List UInt8 := X.F.l ++ joinP X.L
structure LieF (w : World) (B : Nat) (X : FileT) : Prop where
  firm : X.F.Ok w B
  row : Shows w B 1 X.lA X.ln (X.L.map PcT.val)
  loose : ∀ p ∈ X.L, p.Ok w B
  nil : X.lA = none → X.lc = 0
  fits : X.ln ≤ X.lc
  most : X.lc ≤ maxLen
  fuse : (Lit.int .i64 X.fuse).wf = true
  fault : (Lit.int .i64 X.fault).wf = true
theorem LieF.later {w w' : World} {B : Nat} {X : FileT} (h : LieF w B X) (hb : Below B w w') : LieF w' B X :=
  ⟨h.firm.later hb, h.row.below hb, fun p hp => (h.loose p hp).later hb, h.nil, h.fits, h.most, h.fuse, h.fault⟩
theorem LieF.more {w : World} {B B' : Nat} {X : FileT} (h : LieF w B X) (hB : B ≤ B') : LieF w B' X :=
  ⟨h.firm.more hB, h.row.more hB, fun p hp => (h.loose p hp).more hB, h.nil, h.fits, h.most, h.fuse, h.fault⟩
theorem LieF.len {w : World} {B : Nat} {X : FileT} (h : LieF w B X) : X.L.length = X.ln := by have := h.row.1; simpa using this
/-- A piece's cell. -/
theorem pc_at {w : World} {B : Nat} {A : Option Addr} {n : Nat} {L : List PcT} (h : Shows w B 1 A n (L.map PcT.val)) {k : Nat} (hk : k < n) : ∃ b off p, A = some ⟨b, off, none⟩ ∧ b < B ∧ L[k]? = some p ∧ w.cell? ⟨b, off + k, none⟩ = some (.slice p.A p.n p.c) := by
  obtain ⟨b, off, rfl, hb, hc⟩ := h.2 (by omega)
  have hl : L.length = n := by have := h.1; simpa using this
  have hp : L[k]? = some (L[k]'(by omega)) := List.getElem?_eq_getElem (by omega)
  exact ⟨b, off, _, rfl, hb, hp, hc k _ (by rw [List.getElem?_map, hp]; rfl)⟩

/-- How long: up to where it is too long. -/
def lenGo : List PcT → Nat → Nat
  | [], n => n
  | p :: L, n => if 524288 < n then n else lenGo L (n + p.n)
def FileT.long (X : FileT) : Nat := lenGo X.L X.F.n
def sumN (L : List PcT) : Nat := (L.map (·.n)).sum
theorem lenGo_over : ∀ (L : List PcT) (n : Nat), 524288 < n → lenGo L n = n
  | [], n, h => rfl
  | p :: L, n, h => by unfold lenGo; rw [if_pos h]
theorem lenGo_is : ∀ (L : List PcT) (n : Nat), (n + sumN L ≤ 524288 → lenGo L n = n + sumN L) ∧ (524288 < n + sumN L → 524288 < lenGo L n)
  | [], n => by simp [lenGo, sumN]
  | p :: L, n => by
    have e : sumN (p :: L) = p.n + sumN L := by simp [sumN]
    obtain ⟨h1, h2⟩ := lenGo_is L (n + p.n)
    rw [e]
    by_cases h : 524288 < n
    · unfold lenGo
      rw [if_pos h]
      exact ⟨fun h' => by omega, fun _ => h⟩
    · unfold lenGo
      rw [if_neg h]
      exact ⟨fun h' => by rw [h1 (by omega)]; omega, fun h' => h2 (by omega)⟩
theorem lenGo_take {L : List PcT} {k : Nat} {p : PcT} {n : Nat} (h : L[k]? = some p) (hn : n + sumN (L.take k) ≤ 524288) : n + sumN (L.take (k + 1)) = n + sumN (L.take k) + p.n := by
  have : sumN (L.take (k + 1)) = sumN (L.take k) + p.n := by
    unfold sumN
    rw [List.take_add_one, h]
    simp
  omega
theorem sumN_len {w : World} {B : Nat} {L : List PcT} (h : ∀ p ∈ L, p.Ok w B) : (joinP L).length = sumN L := by
  induction L with
  | nil => rfl
  | cons p L ih =>
    rw [joinP_cons, List.length_append, ih fun q hq => h q (List.mem_cons_of_mem _ hq), (h p (List.mem_cons_self ..)).len]
    simp [sumN]
/-- May a file be? -/
def FileT.right (X : FileT) : Bool := X.L.all (fun p => !(p.n == 0)) && (decide (-1 ≤ X.fuse) && (decide (-1 ≤ X.fault) && ((!X.off || X.fuse == -1) && decide (X.long ≤ 524288))))
/-- A file by what it is, without the heads. -/
structure FileS where
  firm : List UInt8
  loose : List (List UInt8)
  fuse : Int
  fault : Int
  off : Bool
def FileT.s (X : FileT) : FileS := ⟨X.F.l, X.L.map (·.l), X.fuse, X.fault, X.off⟩
theorem right_all {w : World} {B : Nat} {X : FileT} (h : LieF w B X) (hr : X.right = true) : X.long = X.all.length ∧ X.all.length ≤ 524288 := by
  unfold FileT.right at hr
  simp only [Bool.and_eq_true, decide_eq_true_eq] at hr
  have hl := hr.2.2.2.2
  obtain ⟨h1, h2⟩ := lenGo_is X.L X.F.n
  have e : X.all.length = X.F.n + sumN X.L := by unfold FileT.all; rw [List.length_append, h.firm.len, sumN_len h.loose]
  unfold FileT.long at hl ⊢
  by_cases hs : X.F.n + sumN X.L ≤ 524288
  · rw [h1 hs, e]; exact ⟨rfl, hs⟩
  · have := h2 (by omega); omega
/-- An operation is asked for that brings so many bytes: the file behind that, and what it comes to. -/
def FileS.asked (X : FileS) (long more : Nat) : FileS × Int :=
  if X.off then (X, 10)
  else if 524288 < long + more then (X, 8)
  else if X.fault = 0 then ({ X with fault := -1 }, 9)
  else
    let f1 := if 0 < X.fault then X.fault - 1 else X.fault
    if X.fuse = 0 then ({ X with fault := f1, fuse := -1, off := true }, 10)
    else ({ X with fault := f1, fuse := if 0 < X.fuse then X.fuse - 1 else X.fuse }, 0)
end Go.Proofs.Ythoenmggjbojoaa
