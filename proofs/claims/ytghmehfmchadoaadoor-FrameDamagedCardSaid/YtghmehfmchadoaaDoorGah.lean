import Derived.Test.YtghmehfmchadoaaDoorGab
import Derived.Test.YtghmehfmchadoaaDoorGag
import Derived.Test.YtghmehfmchadoaaDoorGaa
import Derived.Deep.Slices
import Derived.Deep.Fields
import Derived.ChangeSame
import Derived.Test.YtghmehfmchadoaaDoorGaf
import Derived.Test.YtghmehfmchadoaaDoorGae
import Derived.Test.YtghmehfmchadoaaDoorRows
import Derived.Deep.QuietTactic
import Derived.BigQuiet
import Derived.Lib.Hide
import Derived.Laws.BytesString
import Derived.Laws.Cells
/-
  Layer 10: a file that came in, opened; within the second form's bound each of its rows is short.
-/
namespace Go.Proofs.YtghmehfmchadoaaDoor
open Go.ChangeShapes Go.WideShapes Go.ChangeAt Go.RowKit Go.Deep
set_option linter.unusedVariables false

theorem bulk_pos {H : Type} (d : DataW H) : 1 ≤ Rows.uptoBulk d := by
  cases d with
  | lit x => cases x <;> simp [Rows.uptoBulk]
  | _ => simp [Rows.uptoBulk]
theorem bulk_len {H : Type} : ∀ l : List (DataW H), l.length ≤ Rows.uptoBulkAll l
  | [] => Nat.zero_le _
  | d :: r => by
    have h1 := bulk_pos d
    have h2 := bulk_len r
    rw [Rows.uptoBulkAll, List.length_cons]
    omega
theorem flat_one {α : Type} (f : α → Value) : ∀ l : List α, (l.flatMap fun x => [f x]) = l.map f
  | [] => rfl
  | a :: l => by rw [List.flatMap_cons, flat_one f l]; rfl
theorem u8_of {z : Int} (h : (Lit.int .u8 z).wf = true) : ∃ b : UInt8, bv b = .int .u8 z := by
  have h' : (decide (IntKind.u8.min ≤ z) && decide (z ≤ IntKind.u8.max)) = true := h
  rw [Bool.and_eq_true, decide_eq_true_iff, decide_eq_true_iff] at h'
  have h1 : 0 ≤ z := h'.1
  have h2 : z ≤ 255 := h'.2
  refine ⟨UInt8.ofNat z.toNat, ?_⟩
  unfold bv
  have : (UInt8.ofNat z.toNat).toNat = z.toNat := by simp; omega
  rw [this, Int.toNat_of_nonneg h1]
section
variable {H : Type} {enc : TypeId × Value → H} {P : Program} {w W : World} {base b0 : Nat} {spare : Nat → Bool} {held : Bool} {r : Reach} {t e : TypeId} {v : Value} {d : DataW H} {p : List MemPlace} {N : Nat}
theorem trod_lenN {fuel : Nat} {A : Option Addr} {n c : Nat} {x : DataW H × List MemPlace} (ht : P.underlying t = some (.slice e)) (h : DataW.trod enc P w base spare held fuel t [.slice A n c] = some x) (hN : Rows.uptoBulk x.1 ≤ N) : n ≤ N := by
  rcases DataW.trod_slice ht h with ⟨hcs, _⟩ | ⟨a, len, cap, elems, rest, n', hn, hcs, hx, _, hl, hm, hlen, hi, _, _⟩
  · simp at hcs
    omega
  · simp at hcs
    obtain ⟨_, rfl, _⟩ := hcs
    rw [hx] at hN
    have h1 := bulk_len (elems.map (·.1))
    rw [List.length_map, hlen] at h1
    simp only [Rows.uptoBulk] at hN
    omega
/-- A row of bytes that came in. -/
theorem trod_pieceN (ht : P.underlying t = some (.slice e)) (he : P.underlying e = some (.int .u8)) (hC : P.cellsOf e = 1) {fuel : Nat} {cs : List Value} {x : DataW H × List MemPlace} (h : DataW.trod enc P w base spare held fuel t cs = some x) (hN : Rows.uptoBulk x.1 ≤ N) : ∃ q : PcT, cs = [q.val] ∧ q.Ok w w.heap.size ∧ q.n ≤ N := by
  obtain ⟨A, n, c, l, rfl, hS, _, h1, h2, h3⟩ := open_rowsN (fun b : UInt8 => [bv b]) 0 1 (by decide) (fun _ => rfl) (fun _ => True) ht hC (fun n' cs' y _ hl hy _ => by
    obtain ⟨z, hz, _, hw⟩ := DataW.trod_int he hy
    obtain ⟨b, hb⟩ := u8_of hw
    exact ⟨b, by rw [hz, hb], trivial⟩) h hN
  rw [flat_one bv] at hS
  exact ⟨⟨A, n, c, l⟩, rfl, ⟨hS, h1, h2, h3⟩, trod_lenN ht h hN⟩
variable {f0 f1 f2 f3 f4 : Field} {eb : TypeId}
/-- A file that came in. -/
theorem came_fileN (ht : P.underlying t = some (.struct #[f0, f1, f2, f3, f4])) (hone : oneCellFields P #[f0, f1, f2, f3, f4] = true) (hC : P.cellsOf t = 5)
    (k0 : P.underlying f0.type = some (.slice eb)) (kb : P.underlying eb = some (.int .u8)) (cb : P.cellsOf eb = 1) (k1 : P.underlying f1.type = some (.slice f0.type)) (c1 : P.cellsOf f0.type = 1) (k2 : P.underlying f2.type = some (.int .i64)) (k3 : P.underlying f3.type = some (.int .i64)) (k4 : P.underlying f4.type = some .bool)
    (hv : Value.okWide P W r b0 t v) (h : DataW.Trod enc P w base spare held t v d p) (hN : Rows.uptoBulk d ≤ N) : ∃ X : FileT, v = X.agg ∧ LieF w w.heap.size X ∧ X.F.n ≤ N ∧ X.ln ≤ N ∧ ∀ q ∈ X.L, q.n ≤ N := by
  obtain ⟨cs, rfl, hsz⟩ := okWide_struct ht hv
  obtain ⟨fuel, hf⟩ := h
  have hf' : DataW.trod enc P w base spare held fuel t cs.toList = some (d, p) := by simpa [Value.cells] using hf
  have hl5 : cs.toList.length = 5 := by simpa using hsz.trans hC
  obtain ⟨cs⟩ := cs
  simp only at hf' hl5
  match cs, hl5 with
  | [c0, c1', c2, c3, c4], _ =>
    obtain ⟨xs, n, hn, hx, _, hlen, hg⟩ := DataW.trod_struct ht hf'
    obtain ⟨o0, q0⟩ := hone_of hone 0 f0 rfl
    obtain ⟨o1, q1⟩ := hone_of hone 1 f1 rfl
    obtain ⟨o2, q2⟩ := hone_of hone 2 f2 rfl
    obtain ⟨o3, q3⟩ := hone_of hone 3 f3 rfl
    obtain ⟨o4, q4⟩ := hone_of hone 4 f4 rfl
    match xs, hlen with
    | [y0, y1, y2, y3, y4], _ =>
      have hy0 : DataW.trod enc P w base spare held n f0.type [c0] = some y0 := by simpa [o0, q0] using hg 0 f0 rfl
      have hy1 : DataW.trod enc P w base spare held n f1.type [c1'] = some y1 := by simpa [o1, q1] using hg 1 f1 rfl
      have hy2 : DataW.trod enc P w base spare held n f2.type [c2] = some y2 := by simpa [o2, q2] using hg 2 f2 rfl
      have hy3 : DataW.trod enc P w base spare held n f3.type [c3] = some y3 := by simpa [o3, q3] using hg 3 f3 rfl
      have hy4 : DataW.trod enc P w base spare held n f4.type [c4] = some y4 := by simpa [o4, q4] using hg 4 f4 rfl
      have hb : ∀ y ∈ [y0, y1, y2, y3, y4], Rows.uptoBulk y.1 ≤ N := fun y hy => by
        have hd : d = _ := (Prod.ext_iff.1 hx).1
        rw [hd] at hN
        exact Nat.le_trans (blk_agg (List.mem_map_of_mem (f := (·.1)) hy)) hN
      obtain ⟨F, e0, hF, nF⟩ := trod_pieceN k0 kb cb hy0 (hb y0 (by simp))
      obtain ⟨A, m, c, L, e1, hS, hL, a1, a2, a3⟩ := open_rowsN (fun q : PcT => [q.val]) ⟨none, 0, 0, []⟩ 1 (by decide) (fun _ => rfl) (fun q => q.Ok w w.heap.size ∧ q.n ≤ N) k1 c1 (fun n' cs' y _ hl' hy' hb' => by
        obtain ⟨q, hq, h1, h2⟩ := trod_pieceN k0 kb cb hy' hb'
        exact ⟨q, hq, h1, h2⟩) hy1 (hb y1 (by simp))
      obtain ⟨z2, e2, _, w2⟩ := DataW.trod_int k2 hy2
      obtain ⟨z3, e3, _, w3⟩ := DataW.trod_int k3 hy3
      obtain ⟨z4, e4, _⟩ := DataW.trod_bool k4 hy4
      simp only [List.cons.injEq, and_true] at e0 e1 e2 e3 e4
      subst e0 e1 e2 e3 e4
      rw [flat_one PcT.val] at hS
      exact ⟨⟨F, A, m, c, L, z2, z3, z4⟩, rfl, ⟨hF, hS, fun q hq => (hL q hq).1, a1, a2, a3, w2, w3⟩, nF, trod_lenN k1 hy1 (hb y1 (by simp)), fun q hq => (hL q hq).2⟩
end
end Go.Proofs.YtghmehfmchadoaaDoor
/-
  Layer 10: deeds that came in, opened.
-/
namespace Go.Proofs.YtghmehfmchadoaaDoor
open Go.ChangeShapes Go.WideShapes Go.ChangeAt Go.RowKit Go.Deep
set_option linter.unusedVariables false

/-- A row of truths, with its head. -/
structure BoT where
  A : Option Addr
  n : Nat
  c : Nat
  l : List Bool
def BoT.val (p : BoT) : Value := .slice p.A p.n p.c
def Bools (w : World) (B : Nat) (A : Option Addr) (n : Nat) (l : List Bool) : Prop := Shows w B 1 A n (l.map Value.bool)
theorem Bools.cell {w : World} {B n : Nat} {A : Option Addr} {l : List Bool} (h : Bools w B A n l) {k : Nat} (hk : k < n) : ∃ b off, A = some ⟨b, off, none⟩ ∧ b < B ∧ w.cell? ⟨b, off + k, none⟩ = some (.bool (l.getD k false)) := by
  obtain ⟨b, off, rfl, hb, hc⟩ := h.2 (by omega)
  have hl : l.length = n := by have := h.1; simpa using this
  have hp : l[k]? = some (l[k]'(by omega)) := List.getElem?_eq_getElem (by omega)
  refine ⟨b, off, rfl, hb, hc k _ ?_⟩
  rw [List.getElem?_map, hp, List.getD_eq_getElem?_getD, hp]
  rfl
structure BoT.Ok (w : World) (B : Nat) (p : BoT) : Prop where
  here : Bools w B p.A p.n p.l
  nil : p.A = none → p.c = 0
  fits : p.n ≤ p.c
  most : p.c ≤ maxLen
theorem BoT.Ok.later {w w' : World} {B : Nat} {p : BoT} (h : p.Ok w B) (hb : Below B w w') : p.Ok w' B := ⟨Shows.below h.here hb, h.nil, h.fits, h.most⟩
theorem BoT.Ok.more {w : World} {B B' : Nat} {p : BoT} (h : p.Ok w B) (hB : B ≤ B') : p.Ok w B' := ⟨Shows.more h.here hB, h.nil, h.fits, h.most⟩
/-- A deed. -/
structure DeedT where
  kind : Int
  n : Int
  tear : Int
  bytes : PcT
  keep : BoT
def DeedT.cells (x : DeedT) : List Value := [.int .i64 x.kind, .int .i64 x.n, .int .i64 x.tear, x.bytes.val, x.keep.val]
structure DeedT.Ok (w : World) (B N : Nat) (x : DeedT) : Prop where
  kind : (Lit.int .i64 x.kind).wf = true
  n : (Lit.int .i64 x.n).wf = true
  tear : (Lit.int .i64 x.tear).wf = true
  bytes : x.bytes.Ok w B
  keep : x.keep.Ok w B
  few : x.bytes.n ≤ N ∧ x.keep.n ≤ N
theorem DeedT.Ok.later {w w' : World} {B N : Nat} {x : DeedT} (h : x.Ok w B N) (hb : Below B w w') : x.Ok w' B N := ⟨h.kind, h.n, h.tear, h.bytes.later hb, h.keep.later hb, h.few⟩
theorem DeedT.Ok.more {w : World} {B B' N : Nat} {x : DeedT} (h : x.Ok w B N) (hB : B ≤ B') : x.Ok w B' N := ⟨h.kind, h.n, h.tear, h.bytes.more hB, h.keep.more hB, h.few⟩
def Deeds (w : World) (B : Nat) (A : Option Addr) (n : Nat) (l : List DeedT) : Prop := Shows w B 5 A n (l.flatMap DeedT.cells)
section
variable {H : Type} {enc : TypeId × Value → H} {P : Program} {w W : World} {base b0 : Nat} {spare : Nat → Bool} {held : Bool} {r : Reach} {t e : TypeId} {v : Value} {d : DataW H} {p : List MemPlace} {N : Nat}
theorem trod_boolsN (ht : P.underlying t = some (.slice e)) (he : P.underlying e = some .bool) (hC : P.cellsOf e = 1) {fuel : Nat} {cs : List Value} {x : DataW H × List MemPlace} (h : DataW.trod enc P w base spare held fuel t cs = some x) (hN : Rows.uptoBulk x.1 ≤ N) : ∃ q : BoT, cs = [q.val] ∧ q.Ok w w.heap.size ∧ q.n ≤ N := by
  obtain ⟨A, n, c, l, rfl, hS, _, h1, h2, h3⟩ := open_rowsN (fun b : Bool => [Value.bool b]) false 1 (by decide) (fun _ => rfl) (fun _ => True) ht hC (fun n' cs' y _ hl hy _ => by
    obtain ⟨b, hb, _⟩ := DataW.trod_bool he hy
    exact ⟨b, hb, trivial⟩) h hN
  rw [flat_one Value.bool] at hS
  exact ⟨⟨A, n, c, l⟩, rfl, ⟨hS, h1, h2, h3⟩, trod_lenN ht h hN⟩
theorem came_boolsN {A : Option Addr} {n c : Nat} (ht : P.underlying t = some (.slice e)) (he : P.underlying e = some .bool) (hC : P.cellsOf e = 1) (h : DataW.Trod enc P w base spare held t (.slice A n c) d p) (hN : Rows.uptoBulk d ≤ N) :
    ∃ l : List Bool, Bools w w.heap.size A n l ∧ n ≤ N ∧ (A = none → c = 0) ∧ n ≤ c ∧ c ≤ maxLen := by
  obtain ⟨fuel, hf⟩ := h
  obtain ⟨q, hq, hok, hl⟩ := trod_boolsN ht he hC (by simpa [Value.cells] using hf) hN
  obtain ⟨A', n', c', l⟩ := q
  simp [BoT.val] at hq
  obtain ⟨rfl, rfl, rfl⟩ := hq
  exact ⟨l, hok.here, hl, hok.nil, hok.fits, hok.most⟩
variable {f0 f1 f2 f3 f4 : Field} {eb ek : TypeId}
theorem trod_deedN (ht : P.underlying t = some (.struct #[f0, f1, f2, f3, f4])) (hone : oneCellFields P #[f0, f1, f2, f3, f4] = true)
    (k0 : P.underlying f0.type = some (.int .i64)) (k1 : P.underlying f1.type = some (.int .i64)) (k2 : P.underlying f2.type = some (.int .i64)) (k3 : P.underlying f3.type = some (.slice eb)) (kb : P.underlying eb = some (.int .u8)) (cb : P.cellsOf eb = 1) (k4 : P.underlying f4.type = some (.slice ek)) (kk : P.underlying ek = some .bool) (ck : P.cellsOf ek = 1)
    {fuel : Nat} {cs : List Value} {x : DataW H × List MemPlace} (hl5 : cs.length = 5) (hf' : DataW.trod enc P w base spare held fuel t cs = some x) (hN : Rows.uptoBulk x.1 ≤ N) : ∃ X : DeedT, cs = X.cells ∧ X.Ok w w.heap.size N := by
  match cs, hl5 with
  | [c0, c1', c2, c3, c4], _ =>
    obtain ⟨xs, n, hn, hx, _, hlen, hg⟩ := DataW.trod_struct ht hf'
    obtain ⟨o0, q0⟩ := hone_of hone 0 f0 rfl
    obtain ⟨o1, q1⟩ := hone_of hone 1 f1 rfl
    obtain ⟨o2, q2⟩ := hone_of hone 2 f2 rfl
    obtain ⟨o3, q3⟩ := hone_of hone 3 f3 rfl
    obtain ⟨o4, q4⟩ := hone_of hone 4 f4 rfl
    match xs, hlen with
    | [y0, y1, y2, y3, y4], _ =>
      have hy0 : DataW.trod enc P w base spare held n f0.type [c0] = some y0 := by simpa [o0, q0] using hg 0 f0 rfl
      have hy1 : DataW.trod enc P w base spare held n f1.type [c1'] = some y1 := by simpa [o1, q1] using hg 1 f1 rfl
      have hy2 : DataW.trod enc P w base spare held n f2.type [c2] = some y2 := by simpa [o2, q2] using hg 2 f2 rfl
      have hy3 : DataW.trod enc P w base spare held n f3.type [c3] = some y3 := by simpa [o3, q3] using hg 3 f3 rfl
      have hy4 : DataW.trod enc P w base spare held n f4.type [c4] = some y4 := by simpa [o4, q4] using hg 4 f4 rfl
      have hb : ∀ y ∈ [y0, y1, y2, y3, y4], Rows.uptoBulk y.1 ≤ N := fun y hy => by
        rw [hx] at hN
        exact Nat.le_trans (blk_agg (List.mem_map_of_mem (f := (·.1)) hy)) hN
      obtain ⟨z0, e0, _, w0⟩ := DataW.trod_int k0 hy0
      obtain ⟨z1, e1, _, w1⟩ := DataW.trod_int k1 hy1
      obtain ⟨z2, e2, _, w2⟩ := DataW.trod_int k2 hy2
      obtain ⟨F, e3, hF, nF⟩ := trod_pieceN k3 kb cb hy3 (hb y3 (by simp))
      obtain ⟨K, e4, hK, nK⟩ := trod_boolsN k4 kk ck hy4 (hb y4 (by simp))
      simp only [List.cons.injEq, and_true] at e0 e1 e2 e3 e4
      subst e0 e1 e2 e3 e4
      exact ⟨⟨z0, z1, z2, F, K⟩, rfl, ⟨w0, w1, w2, hF, hK, nF, nK⟩⟩
theorem came_deedsN {A : Option Addr} {n c : Nat} (hu : P.underlying e = some (.slice t)) (ht : P.underlying t = some (.struct #[f0, f1, f2, f3, f4])) (hone : oneCellFields P #[f0, f1, f2, f3, f4] = true) (hC : P.cellsOf t = 5)
    (k0 : P.underlying f0.type = some (.int .i64)) (k1 : P.underlying f1.type = some (.int .i64)) (k2 : P.underlying f2.type = some (.int .i64)) (k3 : P.underlying f3.type = some (.slice eb)) (kb : P.underlying eb = some (.int .u8)) (cb : P.cellsOf eb = 1) (k4 : P.underlying f4.type = some (.slice ek)) (kk : P.underlying ek = some .bool) (ck : P.cellsOf ek = 1)
    (h : DataW.Trod enc P w base spare held e (.slice A n c) d p) (hN : Rows.uptoBulk d ≤ N) : ∃ l : List DeedT, Deeds w w.heap.size A n l ∧ (∀ x ∈ l, x.Ok w w.heap.size N) ∧ n ≤ N ∧ (A = none → c = 0) ∧ n ≤ c ∧ c ≤ maxLen := by
  obtain ⟨fuel, hf⟩ := h
  have hf' : DataW.trod enc P w base spare held fuel e [.slice A n c] = some (d, p) := by simpa [Value.cells] using hf
  obtain ⟨A', n', c', l, hcs, h2, h3, h4, h5, h6⟩ := open_rowsN DeedT.cells ⟨0, 0, 0, ⟨none, 0, 0, []⟩, ⟨none, 0, 0, []⟩⟩ 5 (by decide) (fun _ => rfl) (fun x => x.Ok w w.heap.size N) hu hC (fun n' cs' y _ hl' hy' hb' => trod_deedN ht hone k0 k1 k2 k3 kb cb k4 kk ck hl' hy' hb') hf' hN
  simp at hcs
  obtain ⟨rfl, rfl, rfl⟩ := hcs
  exact ⟨l, h2, h3, trod_lenN hu hf' hN, h4, h5, h6⟩
end
end Go.Proofs.YtghmehfmchadoaaDoor
/-
  Layer 10: how much of a piece survives.
-/
namespace Go.Proofs.YtghmehfmchadoaaDoor
open Go.RowKit
set_option linter.unusedVariables false

end Go.Proofs.YtghmehfmchadoaaDoor
/-
  Layer 10: Crash.
-/
namespace Go.Proofs.YtghmehfmchadoaaDoor
open Go.RowKit
set_option linter.unusedVariables false

theorem zerosU_bv (n : Nat) : (zerosU n).map bv = List.replicate n (Value.int .u8 0) := by unfold zerosU; rw [List.map_replicate]; rfl
theorem zerosU_len (n : Nat) : (zerosU n).length = n := by unfold zerosU; exact List.length_replicate
theorem crash_step {X : FileT} {keep : List Bool} {tear cut : Int} {i m : Nat} {p : PcT} {f : List UInt8} {R : List UInt8} (hp : X.L[i]? = some p) (hl : p.l.length = p.n) (h : crashGo keep tear cut ((X.L.drop i).map (·.l)) i m f = R) :
    (survN p.l i keep tear cut = 0 → crashGo keep tear cut ((X.L.drop (i + 1)).map (·.l)) (i + 1) (m + p.n) f = R) ∧
    (0 < survN p.l i keep tear cut → crashGo keep tear cut ((X.L.drop (i + 1)).map (·.l)) (i + 1) (m + p.n) (f ++ zerosU (m - f.length) ++ p.l.take (survN p.l i keep tear cut)) = R) := by
  obtain ⟨hj, he⟩ := List.getElem?_eq_some_iff.1 hp
  rw [List.drop_eq_getElem_cons hj, he, List.map_cons] at h
  unfold crashGo at h
  rw [hl] at h
  exact ⟨fun h0 => by rw [if_neg (by omega)] at h; exact h, fun h0 => by rw [if_pos h0] at h; exact h⟩
end Go.Proofs.YtghmehfmchadoaaDoor
/-
  Layer 10: Light and Refuse.
-/
namespace Go.Proofs.YtghmehfmchadoaaDoor
open Go.RowKit
set_option linter.unusedVariables false

theorem max_wf {n : Int} (h : (Lit.int .i64 n).wf = true) : (Lit.int .i64 (max n (-1))).wf = true := by
  have hb := wf_i64 h
  simp [Lit.wf, IntKind.min, IntKind.max, IntKind.bits, IntKind.signed]; omega
theorem FVar.lay {W : World} {g : Nat} {a b c d e : Value} (h : FVar W g a b c d e) (o : Obj) : FVar (W.alloc o) g a b c d e := h.later (bel_alloc (Below.refl _ _) o)
end Go.Proofs.YtghmehfmchadoaaDoor
/-
  Layer 10: which deed it is; few of them; a deed done.
-/
namespace Go.Proofs.YtghmehfmchadoaaDoor
open Go.RowKit
set_option linter.unusedVariables false

def whichN (k : Int) : Nat := ((IntKind.u64.wrap k).tmod 7).toNat
theorem which_is (k : Int) : wrap64 ((IntKind.u64.wrap k).tmod 7) = (whichN k : Nat) ∧ whichN k < 7 := by
  have h0 : 0 ≤ IntKind.u64.wrap k := by rw [IntKind.wrap_u64]; exact Int.emod_nonneg _ (by decide)
  have h1 := Int.tmod_nonneg 7 h0
  have h2 := Int.tmod_lt_of_pos (IntKind.u64.wrap k) (show (0 : Int) < 7 by decide)
  unfold whichN
  generalize (IntKind.u64.wrap k).tmod 7 = z at *
  refine ⟨?_, by omega⟩
  unfold wrap64
  omega
/-- What a deed comes to. -/
def doS (X : FileS) (long : Nat) (x : DeedT) : FileS × Int :=
  if whichN x.kind = 3 then X.sync long
  else if whichN x.kind = 4 then (if X.off = true then (X, 10) else (⟨X.firm, X.loose, max x.n (-1), X.fault, false⟩, 0))
  else if whichN x.kind = 5 then (if X.off = true then (X, 10) else (⟨X.firm, X.loose, X.fuse, max x.n (-1), false⟩, 0))
  else if whichN x.kind = 6 then (X.crash x.keep.l x.tear x.n, 0)
  else if x.bytes.n = 0 then (X, 2) else X.append long x.bytes.l
/-- A deed in a box of its own. -/
def DBox (W : World) (g : Nat) (x : DeedT) : Prop :=
  W.cell? ⟨g, 0, none⟩ = some (.int .i64 x.kind) ∧ W.cell? ⟨g, 1, none⟩ = some (.int .i64 x.n) ∧ W.cell? ⟨g, 2, none⟩ = some (.int .i64 x.tear) ∧ W.cell? ⟨g, 3, none⟩ = some (.slice x.bytes.A x.bytes.n x.bytes.c) ∧ W.cell? ⟨g, 4, none⟩ = some (.slice x.keep.A x.keep.n x.keep.c)
theorem DBox.later {W W' : World} {g : Nat} {x : DeedT} (h : DBox W g x) (hb : Below W.heap.size W W') : DBox W' g x :=
  ⟨kept_later hb h.1, kept_later hb h.2.1, kept_later hb h.2.2.1, kept_later hb h.2.2.2.1, kept_later hb h.2.2.2.2⟩
theorem DBox.new (w : World) (x : DeedT) (t : TypeId) : DBox (w.alloc (.cells #[.int .i64 x.kind, .int .i64 x.n, .int .i64 x.tear, .slice x.bytes.A x.bytes.n x.bytes.c, .slice x.keep.A x.keep.n x.keep.c] t)) w.heap.size x :=
  ⟨by simp [go_sem], by simp [go_sem], by simp [go_sem], by simp [go_sem], by simp [go_sem]⟩
end Go.Proofs.YtghmehfmchadoaaDoor
/-
  Layer 10, plain: right files stay right, whatever is done; durable bytes stay. A file in a variable.
-/
namespace Go.Proofs.YtghmehfmchadoaaDoor
open Go.RowKit
set_option linter.unusedVariables false

def FileS.right (S : FileS) : Bool := S.loose.all (fun l => !(l.length == 0)) && (decide (-1 ≤ S.fuse) && (decide (-1 ≤ S.fault) && ((!S.off || S.fuse == -1) && decide (S.all.length ≤ 524288))))
theorem rightS {S : FileS} : S.right = true ↔ (∀ l ∈ S.loose, l ≠ []) ∧ -1 ≤ S.fuse ∧ -1 ≤ S.fault ∧ (S.off = true → S.fuse = -1) ∧ S.all.length ≤ 524288 := by
  unfold FileS.right
  simp only [Bool.and_eq_true, decide_eq_true_eq, List.all_eq_true, Bool.or_eq_true, Bool.not_eq_true', beq_iff_eq, beq_eq_false_iff_ne]
  constructor
  · rintro ⟨h1, h2, h3, h4, h5⟩
    refine ⟨fun l hl e => h1 l hl (by rw [e]; rfl), h2, h3, fun ho => ?_, h5⟩
    rcases h4 with h4 | h4
    · rw [ho] at h4; cases h4
    · exact h4
  · rintro ⟨h1, h2, h3, h4, h5⟩
    refine ⟨fun l hl e => h1 l hl (List.eq_nil_of_length_eq_zero e), h2, h3, ?_, h5⟩
    cases ho : S.off
    · exact .inl rfl
    · exact .inr (h4 ho)
theorem right_s {w : World} {B : Nat} {X : FileT} (h : LieF w B X) : X.right = X.s.right := by
  have hall : X.s.all = X.all := all_s X
  have e : X.all.length = X.F.n + sumN X.L := by unfold FileT.all; rw [List.length_append, h.firm.len, sumN_len h.loose]
  obtain ⟨h1, h2⟩ := lenGo_is X.L X.F.n
  unfold FileT.right FileS.right
  rw [hall, show decide (X.long ≤ 524288) = decide (X.all.length ≤ 524288) from by
    apply decide_eq_decide.2
    unfold FileT.long
    by_cases hs : X.F.n + sumN X.L ≤ 524288
    · rw [h1 hs, e]
    · have := h2 (by omega); omega]
  congr 1
  show X.L.all (fun p => !(p.n == 0)) = (X.L.map (·.l)).all (fun l => !(l.length == 0))
  rw [List.all_map, Bool.eq_iff_iff, List.all_eq_true, List.all_eq_true]
  constructor
  · intro q p hp
    have := q p hp
    rw [← (h.loose p hp).len] at this
    exact this
  · intro q p hp
    have := q p hp
    rw [← (h.loose p hp).len]
    exact this
theorem long_s {w : World} {B : Nat} {X : FileT} (h : LieF w B X) (hr : X.right = true) : X.long = X.s.all.length := by rw [all_s]; exact (right_all h hr).1
theorem all_len (S : FileS) : S.all.length = S.firm.length + S.loose.flatten.length := by unfold FileS.all; exact List.length_append
theorem asked_right {S : FileS} (h : S.right = true) (more : Nat) : (S.asked S.all.length more).1.right = true := by
  obtain ⟨h1, h2, h3, h4, h5⟩ := rightS.1 h
  have h6 : (S.asked S.all.length more).1.all = S.all := by
    obtain ⟨e1, e2⟩ := asked_same S S.all.length more
    generalize S.asked S.all.length more = q at *
    unfold FileS.all
    rw [e1, e2]
  have h7 := asked_same S S.all.length more
  refine rightS.2 ⟨by rw [h7.2]; exact h1, ?_, ?_, ?_, by rw [h6]; exact h5⟩
  all_goals
    unfold FileS.asked
    split
    · assumption
    · split
      · assumption
      · split
        · first | assumption | exact Int.le_refl _
        · dsimp only
          split
          · first | exact Int.le_refl _ | (intro _; rfl) | (show -1 ≤ (if 0 < S.fault then S.fault - 1 else S.fault); split <;> omega)
          · first | (show -1 ≤ (if 0 < S.fault then S.fault - 1 else S.fault); split <;> omega) | (show -1 ≤ (if 0 < S.fuse then S.fuse - 1 else S.fuse); split <;> omega) | (intro ho; have := h4 ho; omega) | (intro ho; exact absurd ho (by assumption))
theorem asked_fits {S : FileS} {long more : Nat} (h : (S.asked long more).2 = 0) : long + more ≤ 524288 := by
  unfold FileS.asked at h
  split at h
  · cases h
  · split at h
    · cases h
    · omega
theorem append_right {S : FileS} (h : S.right = true) {b : List UInt8} (hb : b ≠ []) : (S.append S.all.length b).1.right = true := by
  have ha := asked_right h b.length
  unfold FileS.append
  split
  · rename_i h0
    obtain ⟨h1, h2, h3, h4, h5⟩ := rightS.1 ha
    have h7 := asked_same S S.all.length b.length
    have hf := asked_fits h0
    refine rightS.2 ⟨?_, h2, h3, h4, ?_⟩
    · intro l hl
      rcases List.mem_append.1 hl with hl | hl
      · rw [← h7.2] at hl; exact h1 l hl
      · obtain rfl := List.mem_singleton.1 hl
        exact hb
    · generalize S.asked S.all.length b.length = q at *
      rw [all_len] at hf
      show (q.1.firm ++ (S.loose ++ [b]).flatten).length ≤ 524288
      rw [h7.1, List.flatten_append, List.length_append, List.length_append]
      simp only [List.flatten_cons, List.flatten_nil, List.append_nil]
      omega
  · exact ha
theorem sync_right {S : FileS} (h : S.right = true) : (S.sync S.all.length).1.right = true := by
  have ha := asked_right h 0
  have h5' := (rightS.1 h).2.2.2.2
  unfold FileS.sync
  split
  · obtain ⟨h1, h2, h3, h4, h5⟩ := rightS.1 ha
    refine rightS.2 ⟨fun l hl => (List.not_mem_nil hl).elim, h2, h3, h4, ?_⟩
    show (S.all ++ ([] : List (List UInt8)).flatten).length ≤ 524288
    rw [List.flatten_nil, List.append_nil]
    exact h5'
  · exact ha
theorem crashGo_len (keep : List Bool) (tear cut : Int) : ∀ (L : List (List UInt8)) (i a : Nat) (f : List UInt8), f.length ≤ a → f <+: crashGo keep tear cut L i a f ∧ (crashGo keep tear cut L i a f).length ≤ a + L.flatten.length
  | [], i, a, f, h => by simp [crashGo]; exact h
  | l :: L, i, a, f, h => by
    have hs := survN_le l i keep tear cut
    unfold crashGo
    rw [List.flatten_cons, List.length_append]
    by_cases h0 : 0 < survN l i keep tear cut
    · rw [if_pos h0]
      have hl : (f ++ zerosU (a - f.length) ++ l.take (survN l i keep tear cut)).length ≤ a + l.length := by
        rw [List.length_append, List.length_append, zerosU_len, List.length_take]
        omega
      obtain ⟨h1, h2⟩ := crashGo_len keep tear cut L (i + 1) (a + l.length) _ hl
      refine ⟨?_, by omega⟩
      rw [List.append_assoc] at h1
      exact (List.prefix_append _ _).trans (by rw [List.append_assoc]; exact h1)
    · rw [if_neg h0]
      obtain ⟨h1, h2⟩ := crashGo_len keep tear cut L (i + 1) (a + l.length) f (by omega)
      exact ⟨h1, by omega⟩
theorem crash_right {S : FileS} (h : S.right = true) (keep : List Bool) (tear cut : Int) : (S.crash keep tear cut).right = true := by
  have h5 := (rightS.1 h).2.2.2.2
  rw [all_len] at h5
  refine rightS.2 ⟨fun l hl => (List.not_mem_nil hl).elim, Int.le_refl _, Int.le_refl _, fun h => (by cases h), ?_⟩
  show (crashGo keep tear cut S.loose 0 S.firm.length S.firm ++ ([] : List (List UInt8)).flatten).length ≤ 524288
  rw [List.flatten_nil, List.append_nil]
  have := (crashGo_len keep tear cut S.loose 0 S.firm.length S.firm (Nat.le_refl _)).2
  omega
theorem doS_right {S : FileS} (h : S.right = true) (x : DeedT) (hb : x.bytes.l.length = x.bytes.n) : (doS S S.all.length x).1.right = true := by
  obtain ⟨h1, h2, h3, h4, h5⟩ := rightS.1 h
  unfold doS
  split
  · exact sync_right h
  · split
    · split
      · exact h
      · exact rightS.2 ⟨h1, by show -1 ≤ max x.n (-1); omega, h3, fun h => (by cases h), h5⟩
    · split
      · split
        · exact h
        · exact rightS.2 ⟨h1, h2, by show -1 ≤ max x.n (-1); omega, fun h => (by cases h), h5⟩
      · split
        · exact crash_right h _ _ _
        · split
          · exact h
          · exact append_right h (fun e => by rw [e] at hb; simp at hb; omega)
theorem asked_errs (S : FileS) (long more : Nat) : (S.asked long more).2 = 0 ∨ (S.asked long more).2 = 8 ∨ (S.asked long more).2 = 9 ∨ (S.asked long more).2 = 10 := by
  unfold FileS.asked
  split
  · exact .inr (.inr (.inr rfl))
  · split
    · exact .inr (.inl rfl)
    · split
      · exact .inr (.inr (.inl rfl))
      · dsimp only
        split
        · exact .inr (.inr (.inr rfl))
        · exact .inl rfl
theorem n200 {k : Int} (h : (k == 200) = false) : k ≠ 200 := beq_eq_false_iff_ne.1 h
/-- Durable bytes stay; an operation is refused as an invalid argument only if it is an Append of nothing. -/
theorem doS_stays (S : FileS) (long : Nat) (x : DeedT) : S.firm <+: (doS S long x).1.firm ∧ ((doS S long x).2 ≠ 200) ∧ ((doS S long x).2 = 2 → whichN x.kind < 3 ∧ x.bytes.n = 0) := by
  have hq := (which_is x.kind).2
  have ha : ∀ more, S.firm <+: (S.asked long more).1.firm ∧ (S.asked long more).2 ≠ 200 ∧ (S.asked long more).2 ≠ 2 := fun more => by
    refine ⟨by rw [(asked_same S long more).1]; exact List.prefix_refl _, ?_, ?_⟩
    · rcases asked_errs S long more with h | h | h | h <;> rw [h] <;> decide
    · rcases asked_errs S long more with h | h | h | h <;> rw [h] <;> decide
  unfold doS
  split
  · unfold FileS.sync
    split
    · exact ⟨by show S.firm <+: S.all; unfold FileS.all; exact List.prefix_append _ _, n200 rfl, fun h => by cases h⟩
    · exact ⟨(ha 0).1, (ha 0).2.1, fun h => absurd h (ha 0).2.2⟩
  · split
    · split
      · exact ⟨List.prefix_refl _, n200 rfl, fun h => by cases h⟩
      · exact ⟨List.prefix_refl _, n200 rfl, fun h => by cases h⟩
    · split
      · split
        · exact ⟨List.prefix_refl _, n200 rfl, fun h => by cases h⟩
        · exact ⟨List.prefix_refl _, n200 rfl, fun h => by cases h⟩
      · split
        · exact ⟨(crashGo_len _ _ _ _ _ _ _ (Nat.le_refl _)).1, n200 rfl, fun h => by cases h⟩
        · split
          · exact ⟨List.prefix_refl _, n200 rfl, fun _ => ⟨by omega, by assumption⟩⟩
          · unfold FileS.append
            split
            · exact ⟨by rw [(asked_same S long _).1]; exact List.prefix_refl _, n200 rfl, fun h => by cases h⟩
            · exact ⟨(ha _).1, (ha _).2.1, fun h => absurd h (ha _).2.2⟩
/-- A file in a variable. -/
structure FAt (W : World) (g : Nat) (X : FileT) : Prop where
  v : FVar W g (.slice X.F.A X.F.n X.F.c) (.slice X.lA X.ln X.lc) (.int .i64 X.fuse) (.int .i64 X.fault) (.bool X.off)
  l : LieF W W.heap.size X
  a : AwayF X g
theorem FAt.new {w : World} {X : FileT} (h : LieF w w.heap.size X) (t : TypeId) : FAt (w.alloc (.cells #[.slice X.F.A X.F.n X.F.c, .slice X.lA X.ln X.lc, .int .i64 X.fuse, .int .i64 X.fault, .bool X.off] t)) w.heap.size X :=
  ⟨FVar.new _ _ _ _ _ _ _, (h.later ((Below.refl _ _).alloc (Nat.le_refl _) _)).more (by simp), h.away (Nat.le_refl _)⟩
theorem FAt.later {W W' : World} {g : Nat} {X : FileT} (h : FAt W g X) (hb : Below W.heap.size W W') : FAt W' g X := ⟨h.v.later hb, (h.l.later hb).more hb.size, h.a⟩
theorem FVar.set5 {W : World} {g : Nat} {a b c d e a' b' c' d' e' : Value} (h : FVar W g a b c d e) : FVar (set5F W g a' b' c' d' e') g a' b' c' d' e' :=
  ((((h.set0 a').set1 b').set2 c').set3 d').set4 e'
theorem FAt.set {W : World} {g : Nat} {a b c d e : Value} {Y : FileT} (h : FVar W g a b c d e) (hl : LieF W W.heap.size Y) (ha : AwayF Y g) :
    FAt (set5F W g (.slice Y.F.A Y.F.n Y.F.c) (.slice Y.lA Y.ln Y.lc) (.int .i64 Y.fuse) (.int .i64 Y.fault) (.bool Y.off)) g Y :=
  ⟨h.set5, lie_res hl ha, ha⟩
end Go.Proofs.YtghmehfmchadoaaDoor
namespace Go.Proofs.YtghmehfmchadoaaDoor
open Go.RowKit

def sameB (l1 l2 : List UInt8) : Bool := decide (l1 = l2)

set_option maxRecDepth 20000 in
set_option maxHeartbeats 1000000 in
theorem equal_any (A1 A2 : Option Addr) (n1 c1 n2 c2 : Nat) (l1 l2 : List UInt8) (B1 B2 : Nat) (w : World) (h1 : Bytes w B1 A1 n1 l1) (h2 : Bytes w B2 A2 n2 l2) (hm1 : n1 ≤ maxLen) (hm2 : n2 ≤ maxLen) :
    Calls Tryd.prog 19 #[.slice A1 n1 c1, .slice A2 n2 c2] w fun e w' => e = .returned (.bool (sameB l1 l2)) ∧ ∃ k, w' = w.drewN k := by
  unfold maxLen at hm1 hm2
  by_cases hn : n1 = n2
  · subst hn
    go_enter Tryd.func19, Tryd.ntmps19
    go_wp2
    go_loopw [13] (fun i wr => ∃ k : Nat, k ≤ n1 ∧ i = .int .i64 k ∧ l1.take k = l2.take k ∧ ∃ m, wr = w.drewN m) (fun i _ => n1 - (intOf i).toNat)
    case atStart => exact ⟨0, Nat.zero_le _, rfl, rfl, 0, rfl⟩
    case round =>
      obtain ⟨k, hk, rfl, ht, m, rfl⟩ := hrel
      by_cases hlt : k < n1
      · obtain ⟨b1, o1, rfl, _, hc1⟩ := h1.cell hlt
        obtain ⟨b2, o2, rfl, _, hc2⟩ := h2.cell hlt
        have hl1 : k < l1.length := by have := h1.len; omega
        have hl2 : k < l2.length := by have := h2.len; omega
        have t1 : l1.take (k + 1) = l1.take k ++ [l1.getD k 0] := take_snoc l1 k hl1
        have t2 : l2.take (k + 1) = l2.take k ++ [l2.getD k 0] := take_snoc l2 k hl2
        have g1 := at8_lo l1 k
        have g2 := at8_hi l1 k
        have g3 := at8_lo l2 k
        have g4 := at8_hi l2 k
        by_cases hx : at8 l1 k = at8 l2 k
        · have hb : (at8 l1 k != at8 l2 k) = false := by rw [hx]; simp
          have ht' := Lib.hid (show l1.take (k + 1) = l2.take (k + 1) by rw [t1, t2, ht, at8_inj hx])
          clear ht hx t1 t2
          go_wp2
          go_quiet (fail)
          go_wp2
          go_roundw
          case rel => exact ⟨k + 1, by omega, by go_num, ht'.out, _, rfl⟩
          case measure => simp [intOf]; omega
        · have hb : (at8 l1 k != at8 l2 k) = true := bne_iff_ne.2 hx
          have hs := Lib.hid (show sameB l1 l2 = false by
            unfold sameB
            apply decide_eq_false
            intro h
            exact hx (by rw [h]))
          clear ht hx t1 t2
          go_wp2
          go_quiet (fail)
          go_wp2
          go_ret
          exact ⟨by rw [hs.out]; rfl, _, World.drewN_drewN _ _ _⟩
      · have hk' : k = n1 := by omega
        have hs := Lib.hid (show sameB l1 l2 = true by
          unfold sameB
          apply decide_eq_true
          have e1 := h1.len
          have e2 := h2.len
          rw [hk', List.take_of_length_le (by omega), List.take_of_length_le (by omega)] at ht
          exact ht)
        clear hk' ht
        go_wp2
        go_ret
        exact ⟨by rw [hs.out]; rfl, _, rfl⟩
  · have hne : ((n1 : Int) != (n2 : Int)) = true := by rw [bne_iff_ne]; omega
    have hl1 := h1.len
    have hl2 := h2.len
    have hs : sameB l1 l2 = false := by
      unfold sameB
      apply decide_eq_false
      intro h
      subst h
      omega
    rw [hs]
    clear hl1 hl2 hs
    go_enter Tryd.func19, Tryd.ntmps19
    go_wp2
    go_ret
    exact ⟨rfl, 0, rfl⟩
end Go.Proofs.YtghmehfmchadoaaDoor
/-
  Strings: a list of bytes as a string; '[]byte' made a string. No program in sight.
-/
namespace Go.Proofs.YtghmehfmchadoaaDoor
open Go.RowKit

/-- A list of bytes as a string. -/
def ofL (l : List UInt8) : ByteArray := ⟨l.toArray⟩
theorem ofL_toList (l : List UInt8) : (ofL l).data.toList = l := by simp [ofL]
theorem ofL_size (l : List UInt8) : (ofL l).size = l.length := by simp [ofL, ByteArray.size]
theorem ofL_of (s : ByteArray) : ofL s.data.toList = s := by
  cases s
  simp [ofL]
theorem ofL_inj {l m : List UInt8} (h : ofL l = ofL m) : l = m := by
  have := congrArg (fun s : ByteArray => s.data.toList) h
  simpa [ofL_toList] using this
theorem ofL_push (l : List UInt8) (c : UInt8) : (ofL l).push c = ofL (l ++ [c]) := by
  simp [ofL, ByteArray.push]
theorem foldl_push : ∀ (l r : List UInt8), (l.map fun c => (c.toNat : Int)).foldl (fun r n => r.push (UInt8.ofNat n.toNat)) (ofL r) = ofL (r ++ l)
  | [], r => by simp
  | c :: l, r => by
    simp only [List.map_cons, List.foldl_cons]
    rw [show UInt8.ofNat ((c.toNat : Int)).toNat = c by simp, ofL_push, foldl_push l]
    simp

theorem run_bytes_string {P : Program} {src dst e : TypeId} (hs : P.underlying src = some (.slice e)) (he : P.underlying e = some (.int .u8)) (hd : P.underlying dst = some .string)
    (w : World) (A : Option Addr) (n c B : Nat) (l : List UInt8) (h : Bytes w B A n l) : (convert src dst (.slice A n c)).run P w = .ok (.string (ofL l)) w := by
  rw [run_convert_bytes_string w src dst e A n c hs he hd]
  have hn := h.len
  rcases A with _ | a
  · have hz : l = [] := by
      rcases Nat.eq_zero_or_pos n with h0 | h0
      · exact List.eq_nil_of_length_eq_zero (by omega)
      · obtain ⟨_, _, e1, _⟩ := h.2 h0
        cases e1
    subst hz
    rfl
  · have hc : ∀ j v, (l.map bv)[j]? = some v → w.cell? (a.add j) = some v := by
      intro j v hj
      have h0 : 0 < n := by
        rcases Nat.eq_zero_or_pos n with h0 | h0
        · have : l = [] := List.eq_nil_of_length_eq_zero (by omega)
          subst this
          simp at hj
        · exact h0
      obtain ⟨b, off, e1, _, h2⟩ := h.2 h0
      injection e1 with e1
      subst e1
      rw [addr_add]
      exact h2 j v hj
    have hl := run_loadCells_list (P := P) (w := w) a (l.map bv) hc
    rw [List.length_map, hn] at hl
    have h2 := run_bytesToString (P := P) w a n c (l.map fun c => (c.toNat : Int)) (by rw [hl, List.map_map]; rfl)
    rw [h2]
    have h3 := foldl_push l []
    rw [show (ByteArray.empty) = ofL [] from rfl, h3]
    rfl
end Go.Proofs.YtghmehfmchadoaaDoor
/-
  bytes.Equal, bytes.HasPrefix.
-/
namespace Go.Proofs.YtghmehfmchadoaaDoor
open Go.RowKit

theorem bofL_beq (l m : List UInt8) : ((ofL l).toList == (ofL m).toList) = sameB l m := by
  unfold sameB
  rw [ByteArray.toList_eq, ByteArray.toList_eq, ofL_toList, ofL_toList, Bool.eq_iff_iff, beq_iff_eq, decide_eq_true_iff]
set_option maxRecDepth 20000 in
set_option maxHeartbeats 1000000 in
theorem bequal_any (A1 A2 : Option Addr) (n1 c1 n2 c2 : Nat) (l1 l2 : List UInt8) (B1 B2 : Nat) (w : World) (h1 : Bytes w B1 A1 n1 l1) (h2 : Bytes w B2 A2 n2 l2) (b : Bool) (hb : sameB l1 l2 = b) :
    Calls Tryd.prog 25 #[.slice A1 n1 c1, .slice A2 n2 c2] w fun e w' => e = .returned (.bool b) ∧ w = w' := by
  have k1 := run_bytes_string (P := Tryd.prog) Tryd.underlying22 Tryd.underlying5 Tryd.underlying9 w A1 n1 c1 B1 l1 h1
  have k2 := run_bytes_string (P := Tryd.prog) Tryd.underlying22 Tryd.underlying5 Tryd.underlying9 w A2 n2 c2 B2 l2 h2
  have hbe : ((ofL l1).toList == (ofL l2).toList) = b := (bofL_beq l1 l2).trans hb
  generalize ofL l1 = s1 at *
  generalize ofL l2 = s2 at *
  clear h1 h2 hb
  go_enter Tryd.func25, Tryd.ntmps25
  go_wp2
  go_ret
  exact ⟨rfl, rfl⟩
theorem prefix_yes {l1 l2 : List UInt8} {n1 n2 : Nat} (h1 : l1.length = n1) (h2 : l2.length = n2) (h : l2 <+: l1) : (decide (n2 ≤ n1) && sameB (l1.take n2) l2) = true := by
  have hl := h.length_le
  unfold sameB
  rw [decide_eq_true (by omega), decide_eq_true (by rw [← h2]; exact (List.prefix_iff_eq_take.1 h).symm)]
  rfl
end Go.Proofs.YtghmehfmchadoaaDoor
/-
  Layer 10: operations whose outcome is known; does the layer do anything?
-/
namespace Go.Proofs.YtghmehfmchadoaaDoor
open Go.RowKit
set_option linter.unusedVariables false

/-- What an operation that was done gives. -/
def OkP (X : FileT) (Z : Nat → Prop) (S : FileS) (w : World) (e : Ending) (w' : World) : Prop :=
  ∃ Y : FileT, e = .returned (.tuple #[Y.agg, .int .i64 0]) ∧ Y.s = S ∧ LieF w' w'.heap.size Y ∧ Below w.heap.size w w' ∧ (∀ g, g < w.heap.size → AwayF X g → Z g → AwayF Y g)
theorem ok_of {X : FileT} {Z : Nat → Prop} {S : FileS} {out : FileS × Int} {w : World} {e : Ending} {w' : World} (h : OpP X Z out w e w') (ho : out = (S, 0)) : OkP X Z S w e w' := by
  subst ho
  exact h
theorem appendS (X : FileT) (p : PcT) (S T : FileS) (w : World) (hL : LieF w w.heap.size X) (hp : p.Ok w w.heap.size) (hs : X.s = S) (hS : S.right = true) (ho : (if p.l.length = 0 then (S, 2) else S.append S.all.length p.l) = (T, 0)) :
    Calls Tryd.prog 18 #[X.agg, .slice p.A p.n p.c] w (OkP X (AwayP p) T w) := by
  have hr : X.right = true := by rw [right_s hL, hs]; exact hS
  refine (appendF_any X p _ w hL hp (Nat.le_refl _) hr).mono fun e w' h => ok_of h ?_
  rw [← ho, long_s hL hr, hs, ← hp.len]
theorem all_of {X : FileT} {S : FileS} (hs : X.s = S) : X.all = S.all := by rw [← all_s, hs]
theorem readS (X : FileT) (a n : Nat) (S : FileS) (w : World) (hL : LieF w w.heap.size X) (hs : X.s = S) (hS : S.right = true) (h : a + n ≤ S.all.length) :
    Calls Tryd.prog 45 #[X.agg, .int .i64 a, .int .i64 n] w (ReadP X a n w) := by
  have hr : X.right = true := by rw [right_s hL, hs]; exact hS
  exact readF_ok X a n _ w hL (Nat.le_refl _) (right_rows hL hr).1 hr (by rw [long_s hL hr, hs]; exact h)
theorem lenS (X : FileT) (S : FileS) (w : World) (hL : LieF w w.heap.size X) (hs : X.s = S) (hS : S.right = true) :
    Calls Tryd.prog 24 #[X.agg] w fun e w' => e = .returned (.int .i64 (S.all.length : Nat)) ∧ Below w.heap.size w w' := by
  have hr : X.right = true := by rw [right_s hL, hs]; exact hS
  refine (lenF_any X _ w hL (Nat.le_refl _) (right_rows hL hr).1).mono ?_
  rintro e w' ⟨rfl, hb⟩
  exact ⟨by rw [if_pos hr, long_s hL hr, hs], hb⟩
theorem piece_new (w : World) (l : List UInt8) (C : Array Value) (hC : C.toList = l.map bv) : PcT.Ok (w.alloc (.cells C 5)) (w.alloc (.cells C 5)).heap.size ⟨some ⟨w.heap.size, 0, none⟩, l.length, l.length, l⟩ ∨ 9223372036854775807 < l.length := by
  by_cases h : l.length ≤ 9223372036854775807
  · refine .inl ⟨?_, fun h => (by cases h), Nat.le_refl _, by unfold maxLen; exact h⟩
    rw [World.size_alloc]
    exact bytes_new w l C _ _ hC
  · exact .inr (by omega)
theorem piece_at (w : World) (l : List UInt8) (C : Array Value) (hC : C.toList = l.map bv) (h : l.length ≤ 100) : PcT.Ok (w.alloc (.cells C 5)) (w.alloc (.cells C 5)).heap.size ⟨some ⟨w.heap.size, 0, none⟩, l.length, l.length, l⟩ := by
  rcases piece_new w l C hC with h1 | h1
  · exact h1
  · omega
theorem bools_at (w : World) (l : List Bool) (C : Array Value) (t : TypeId) (hC : C.toList = l.map Value.bool) (h : l.length ≤ 100) : BoT.Ok (w.alloc (.cells C t)) (w.alloc (.cells C t)).heap.size ⟨some ⟨w.heap.size, 0, none⟩, l.length, l.length, l⟩ := by
  refine ⟨⟨by simp, fun _ => ⟨w.heap.size, 0, rfl, by simp, fun j u hu => ?_⟩⟩, fun h => (by cases h), Nat.le_refl _, by unfold maxLen; show l.length ≤ _; omega⟩
  rw [Nat.zero_add, World.cell?_alloc_new]
  rw [← hC] at hu
  simpa using hu
theorem eq_yes (A1 A2 : Option Addr) (n1 c1 n2 c2 : Nat) (l : List UInt8) (B1 B2 : Nat) (w : World) (h1 : Bytes w B1 A1 n1 l) (h2 : Bytes w B2 A2 n2 l) (hm : n1 ≤ maxLen) :
    Calls Tryd.prog 19 #[.slice A1 n1 c1, .slice A2 n2 c2] w fun e w' => e = .returned (.bool true) ∧ Below w.heap.size w w' := by
  refine (equal_any A1 A2 n1 c1 n2 c2 l l B1 B2 w h1 h2 hm (by rw [← h2.len, h1.len]; exact hm)).mono ?_
  rintro e w' ⟨rfl, k, rfl⟩
  exact ⟨by rw [show sameB l l = true by unfold sameB; exact decide_eq_true rfl], below_drewN (Below.refl _ _) k⟩
def newF : FileT := ⟨⟨none, 0, 0, []⟩, none, 0, 0, [], -1, -1, false⟩
theorem newF_lies (w : World) : LieF w w.heap.size newF := lie_syn ⟨Bytes.zero _, fun _ => rfl, Nat.le_refl _, by unfold maxLen; exact Nat.zero_le _⟩ (by decide) (by decide)
def S1 : FileS := ⟨[], [[1, 2]], -1, -1, false⟩
def S2 : FileS := ⟨[1, 2], [], -1, -1, false⟩
def S3 : FileS := ⟨[1, 2], [[4]], -1, -1, false⟩
def S4 : FileS := ⟨[1, 2], [[4], [5, 6]], -1, -1, false⟩
def S5 : FileS := ⟨[1, 2, 0, 5, 6], [], -1, -1, false⟩
end Go.Proofs.YtghmehfmchadoaaDoor
/-
  Layer 10: a deed of a row, cell by cell; deeds done to files that are right.
-/
namespace Go.Proofs.YtghmehfmchadoaaDoor
open Go.RowKit
set_option linter.unusedVariables false

theorem deed_at {w : World} {B n : Nat} {A : Option Addr} {l : List DeedT} (h : Deeds w B A n l) {k : Nat} (hk : k < n) : ∃ b off x, A = some ⟨b, off, none⟩ ∧ b < B ∧ l[k]? = some x ∧
    w.cell? ⟨b, off + k * 5, none⟩ = some (.int .i64 x.kind) ∧ w.cell? ⟨b, off + k * 5 + 1, none⟩ = some (.int .i64 x.n) ∧ w.cell? ⟨b, off + k * 5 + 2, none⟩ = some (.int .i64 x.tear) ∧ w.cell? ⟨b, off + k * 5 + 3, none⟩ = some (.slice x.bytes.A x.bytes.n x.bytes.c) ∧ w.cell? ⟨b, off + k * 5 + 4, none⟩ = some (.slice x.keep.A x.keep.n x.keep.c) := by
  obtain ⟨b, off, rfl, hb, hc⟩ := h.2 (by omega)
  have hl : l.length = n := by have := h.1; rw [flat_len DeedT.cells 5 (fun _ => rfl)] at this; omega
  have hk' : k < l.length := by omega
  have hg := fun j hj => flat_get DeedT.cells 5 (fun _ => rfl) l k j hk' hj
  refine ⟨b, off, l[k], rfl, hb, List.getElem?_eq_getElem hk', ?_, ?_, ?_, ?_, ?_⟩
  · exact hc (k * 5 + 0) _ (hg 0 (by decide))
  · rw [Nat.add_assoc]; exact hc (k * 5 + 1) _ (hg 1 (by decide))
  · rw [Nat.add_assoc]; exact hc (k * 5 + 2) _ (hg 2 (by decide))
  · rw [Nat.add_assoc]; exact hc (k * 5 + 3) _ (hg 3 (by decide))
  · rw [Nat.add_assoc]; exact hc (k * 5 + 4) _ (hg 4 (by decide))
theorem doR {X Y : FileT} {x : DeedT} {w : World} {B N : Nat} (hx : x.Ok w B N) (hr : X.s.right = true) (hs : Y.s = (doS X.s X.s.all.length x).1) : Y.s.right = true := by
  rw [hs]; exact doS_right hr x hx.bytes.len
theorem checkR (X : FileT) (w : World) (hL : LieF w w.heap.size X) (hr : X.s.right = true) :
    Calls Tryd.prog 13 #[X.agg] w fun e w' => e = .returned (.int .i64 0) ∧ Below w.heap.size w w' := by
  have hr' : X.right = true := by rw [right_s hL]; exact hr
  refine (checkF_any X _ w hL (Nat.le_refl _) (right_rows hL hr').1).mono ?_
  rintro e w' ⟨rfl, hb⟩
  exact ⟨by rw [if_pos hr'], hb⟩
end Go.Proofs.YtghmehfmchadoaaDoor
/-
  Layer 10: all that a file has.
-/
namespace Go.Proofs.YtghmehfmchadoaaDoor
open Go.RowKit
set_option linter.unusedVariables false

/-- A row that came back. -/
def RowP (X : FileT) (l : List UInt8) (w : World) (e : Ending) (w' : World) : Prop :=
  ∃ p : PcT, e = .returned (.slice p.A p.n p.c) ∧ p.l = l ∧ p.Ok w' w'.heap.size ∧ Below w.heap.size w w' ∧ ∀ g, g < w.heap.size → AwayF X g → AwayP p g
end Go.Proofs.YtghmehfmchadoaaDoor
/-
  Layer 10, plain: the counts of operations before the power is lost, and before one is refused.
-/
namespace Go.Proofs.YtghmehfmchadoaaDoor
open Go.RowKit
set_option linter.unusedVariables false

/-- An operation: what is asked, and what is then done. -/
def opS (S : FileS) (long more : Nat) (f : FileS → FileS) : FileS × Int := if (S.asked long more).2 = 0 then (f (S.asked long more).1, 0) else S.asked long more
/-- An Append or a Sync. -/
theorem doS_op (x : DeedT) (h3 : whichN x.kind ≤ 3) (hb : whichN x.kind < 3 → x.bytes.n ≠ 0) (fi : List UInt8) (lo : List (List UInt8)) (long : Nat) :
    ∃ more fi' lo', ∀ u v b, doS ⟨fi, lo, u, v, b⟩ long x = opS ⟨fi, lo, u, v, b⟩ long more (fun r => ⟨fi', lo', r.fuse, r.fault, r.off⟩) := by
  by_cases h : whichN x.kind = 3
  · refine ⟨0, fi ++ lo.flatten, [], fun u v b => ?_⟩
    unfold doS
    rw [if_pos h]
    rfl
  · refine ⟨x.bytes.l.length, fi, lo ++ [x.bytes.l], fun u v b => ?_⟩
    unfold doS
    rw [if_neg h, if_neg (by omega), if_neg (by omega), if_neg (by omega), if_neg (hb (by omega))]
    have e := asked_same ⟨fi, lo, u, v, b⟩ long x.bytes.l.length
    unfold FileS.append opS
    split
    · refine Prod.ext ?_ rfl
      dsimp only
      rw [e.1]
    · rfl
theorem asked_plain (fi : List UInt8) (lo : List (List UInt8)) (long more : Nat) : FileS.asked ⟨fi, lo, -1, -1, false⟩ long more = if 524288 < long + more then (⟨fi, lo, -1, -1, false⟩, 8) else (⟨fi, lo, -1, -1, false⟩, 0) := by
  unfold FileS.asked
  rw [if_neg (by show ¬ false = true; decide)]
  split
  · rfl
  · rfl
theorem asked_fuse (fi : List UInt8) (lo : List (List UInt8)) (k long more : Nat) : FileS.asked ⟨fi, lo, (k : Nat), -1, false⟩ long more = if 524288 < long + more then (⟨fi, lo, (k : Nat), -1, false⟩, 8) else if k = 0 then (⟨fi, lo, -1, -1, true⟩, 10) else (⟨fi, lo, ((k - 1 : Nat) : Int), -1, false⟩, 0) := by
  unfold FileS.asked
  rw [if_neg (by show ¬ false = true; decide)]
  split
  · rfl
  · rw [if_neg (by show ¬ (-1 : Int) = 0; decide)]
    dsimp only
    by_cases h : k = 0
    · rw [if_pos (by omega), if_pos h]; rfl
    · rw [if_neg (by omega), if_neg h, if_pos (by omega : (0 : Int) < (k : Int)), show ((k : Nat) : Int) - 1 = ((k - 1 : Nat) : Int) by omega]; rfl
theorem asked_fault (fi : List UInt8) (lo : List (List UInt8)) (k long more : Nat) : FileS.asked ⟨fi, lo, -1, (k : Nat), false⟩ long more = if 524288 < long + more then (⟨fi, lo, -1, (k : Nat), false⟩, 8) else if k = 0 then (⟨fi, lo, -1, -1, false⟩, 9) else (⟨fi, lo, -1, ((k - 1 : Nat) : Int), false⟩, 0) := by
  unfold FileS.asked
  rw [if_neg (by show ¬ false = true; decide)]
  split
  · rfl
  · by_cases h : k = 0
    · rw [if_pos (by show ((k : Nat) : Int) = 0; omega), if_pos h]
    · rw [if_neg (by show ¬ ((k : Nat) : Int) = 0; omega), if_neg h]
      dsimp only
      rw [if_neg (by decide), if_pos (by omega : (0 : Int) < (k : Int)), show ((k : Nat) : Int) - 1 = ((k - 1 : Nat) : Int) by omega]
      rfl
theorem asked_off (fi : List UInt8) (lo : List (List UInt8)) (u v : Int) (long more : Nat) : (FileS.asked ⟨fi, lo, u, v, true⟩ long more).2 = 10 := by
  unfold FileS.asked
  rw [if_pos rfl]
/-- An operation on a file that neither count holds back, and on one that so many are left to. -/
theorem counts_step (fi : List UInt8) (lo : List (List UInt8)) (k long : Nat) (x : DeedT) (h3 : whichN x.kind ≤ 3) (hb : whichN x.kind < 3 → x.bytes.n ≠ 0) :
    ((doS ⟨fi, lo, -1, -1, false⟩ long x).2 = 8 ∧ (doS ⟨fi, lo, (k : Nat), -1, false⟩ long x).2 = 8) ∨
    ((doS ⟨fi, lo, -1, -1, false⟩ long x).2 = 0 ∧ k = 0 ∧ doS ⟨fi, lo, (k : Nat), -1, false⟩ long x = (⟨fi, lo, -1, -1, true⟩, 10) ∧ (doS ⟨fi, lo, -1, -1, true⟩ long x).2 = 10) ∨
    (0 < k ∧ ∃ fi' lo', doS ⟨fi, lo, -1, -1, false⟩ long x = (⟨fi', lo', -1, -1, false⟩, 0) ∧ doS ⟨fi, lo, (k : Nat), -1, false⟩ long x = (⟨fi', lo', ((k - 1 : Nat) : Int), -1, false⟩, 0)) := by
  obtain ⟨more, fi', lo', h⟩ := doS_op x h3 hb fi lo long
  rw [h, h, h]
  unfold opS
  rw [asked_plain, asked_fuse]
  by_cases hf : 524288 < long + more
  · exact .inl ⟨by simp [hf], by simp [hf]⟩
  · by_cases hk : k = 0
    · exact .inr (.inl ⟨by simp [hf], hk, by simp [hf, hk], by rw [if_neg (by rw [asked_off]; decide)]; exact asked_off _ _ _ _ _ _⟩)
    · exact .inr (.inr ⟨by omega, fi', lo', by simp [hf], by simp [hf, hk]⟩)
theorem refuses_step (fi : List UInt8) (lo : List (List UInt8)) (k long : Nat) (x : DeedT) (h3 : whichN x.kind ≤ 3) (hb : whichN x.kind < 3 → x.bytes.n ≠ 0) :
    ((doS ⟨fi, lo, -1, -1, false⟩ long x).2 = 8 ∧ (doS ⟨fi, lo, -1, (k : Nat), false⟩ long x).2 = 8) ∨
    ((doS ⟨fi, lo, -1, -1, false⟩ long x).2 = 0 ∧ k = 0 ∧ doS ⟨fi, lo, -1, (k : Nat), false⟩ long x = (⟨fi, lo, -1, -1, false⟩, 9)) ∨
    (0 < k ∧ ∃ fi' lo', doS ⟨fi, lo, -1, -1, false⟩ long x = (⟨fi', lo', -1, -1, false⟩, 0) ∧ doS ⟨fi, lo, -1, (k : Nat), false⟩ long x = (⟨fi', lo', -1, ((k - 1 : Nat) : Int), false⟩, 0)) := by
  obtain ⟨more, fi', lo', h⟩ := doS_op x h3 hb fi lo long
  rw [h, h]
  unfold opS
  rw [asked_plain, asked_fault]
  by_cases hf : 524288 < long + more
  · exact .inl ⟨by simp [hf], by simp [hf]⟩
  · by_cases hk : k = 0
    · exact .inr (.inl ⟨by simp [hf], hk, by simp [hf, hk]⟩)
    · exact .inr (.inr ⟨by omega, fi', lo', by simp [hf], by simp [hf, hk]⟩)
theorem plain_step (fi : List UInt8) (lo : List (List UInt8)) (long : Nat) (x : DeedT) (h3 : whichN x.kind ≤ 3) (hb : whichN x.kind < 3 → x.bytes.n ≠ 0) :
    (doS ⟨fi, lo, -1, -1, false⟩ long x).2 = 8 ∨ ∃ fi' lo', doS ⟨fi, lo, -1, -1, false⟩ long x = (⟨fi', lo', -1, -1, false⟩, 0) := by
  obtain ⟨more, fi', lo', h⟩ := doS_op x h3 hb fi lo long
  rw [h]
  unfold opS
  rw [asked_plain]
  by_cases hf : 524288 < long + more
  · exact .inl (by simp [hf])
  · exact .inr ⟨fi', lo', by simp [hf]⟩
theorem all_s5 (fi : List UInt8) (lo : List (List UInt8)) (u v : Int) (b : Bool) : FileS.all ⟨fi, lo, u, v, b⟩ = fi ++ lo.flatten := rfl
theorem right_u {fi : List UInt8} {lo : List (List UInt8)} (h : FileS.right ⟨fi, lo, -1, -1, false⟩ = true) {u v : Int} (hu : -1 ≤ u) (hv : -1 ≤ v) : FileS.right ⟨fi, lo, u, v, false⟩ = true := by
  obtain ⟨h1, _, _, _, h5⟩ := rightS.1 h
  exact rightS.2 ⟨h1, hu, hv, fun h => (by cases h), h5⟩
theorem right_o {fi : List UInt8} {lo : List (List UInt8)} (h : FileS.right ⟨fi, lo, -1, -1, false⟩ = true) : FileS.right ⟨fi, lo, -1, -1, true⟩ = true := by
  obtain ⟨h1, _, _, _, h5⟩ := rightS.1 h
  exact rightS.2 ⟨h1, Int.le_refl _, Int.le_refl _, fun _ => rfl, h5⟩
end Go.Proofs.YtghmehfmchadoaaDoor
/-
  Layer 10: Same.
-/
namespace Go.Proofs.YtghmehfmchadoaaDoor
open Go.RowKit
set_option linter.unusedVariables false

theorem same_no {l m : List UInt8} (h : ¬ l = m) : sameB l m = false := by unfold sameB; exact decide_eq_false h
theorem same_yes' {l m : List UInt8} (h : l = m) : sameB l m = true := by unfold sameB; exact decide_eq_true h
theorem take_map {L : List PcT} {k : Nat} {p : PcT} (h : L[k]? = some p) : (L.take (k + 1)).map (·.l) = (L.take k).map (·.l) ++ [p.l] := by
  rw [List.take_add_one, h]
  simp
/-- Are two files one? -/
def sameS (S T : FileS) : Bool := (S.fuse == T.fuse) && ((S.fault == T.fault) && ((S.off == T.off) && (sameB S.firm T.firm && decide (S.loose = T.loose))))
end Go.Proofs.YtghmehfmchadoaaDoor
/-
  Layer 10, plain: what is left behind a loss of power, byte by byte.
-/
namespace Go.Proofs.YtghmehfmchadoaaDoor
open Go.RowKit
set_option linter.unusedVariables false

/-- Noughts where nothing stayed, and never the last byte. -/
def GapZ (R : List UInt8) (lo hi : Nat) : Prop := ∀ q, lo ≤ q → q < hi → q < R.length → R[q]? = some 0 ∧ q ≠ R.length - 1
def ByteZ (R : List UInt8) (st : Bool) (q : Nat) (x : UInt8) : Prop :=
  (st = true → q < R.length ∧ R[q]? = some x) ∧ (st = false → q < R.length → R[q]? = some 0 ∧ q ≠ R.length - 1)
theorem crash_bytes (keep : List Bool) (tear cut : Int) : ∀ (L : List (List UInt8)) (i a : Nat) (f R : List UInt8), f.length ≤ a → crashGo keep tear cut L i a f = R →
    f <+: R ∧ GapZ R f.length a ∧ ∀ (j : Nat) (l : List UInt8), L[j]? = some l → ∀ (k : Nat) (x : UInt8), l[k]? = some x → ByteZ R (stayB (i + j) k keep tear cut) (a + (L.take j).flatten.length + k) x
  | [], i, a, f, R, hf, h => by
    have hR : f = R := h
    subst hR
    exact ⟨List.prefix_refl _, fun q h1 h2 h3 => absurd h3 (by omega), fun j l hl => by simp at hl⟩
  | l0 :: L, i, a, f, R, hf, h => by
    have hs := survN_le l0 i keep tear cut
    have hst := fun k hk => stay_iff l0 i k keep tear cut hk
    unfold crashGo at h
    generalize survN l0 i keep tear cut = s at *
    by_cases h0 : 0 < s
    · rw [if_pos h0] at h
      have hl : (f ++ zerosU (a - f.length) ++ l0.take s).length = a + s := by
        rw [List.length_append, List.length_append, zerosU_len, List.length_take]
        omega
      obtain ⟨p1, p2, p3⟩ := crash_bytes keep tear cut L (i + 1) (a + l0.length) _ R (by omega) h
      have hlen := p1.length_le
      rw [hl] at p2 hlen
      have hget : ∀ q, q < a + s → R[q]? = (f ++ zerosU (a - f.length) ++ l0.take s)[q]? := fun q hq => by
        obtain ⟨t, ht⟩ := p1
        rw [← ht, List.getElem?_append_left (by rw [hl]; exact hq)]
      refine ⟨(List.prefix_append f _).trans (by rw [← List.append_assoc]; exact p1), fun q h1 h2 h3 => ?_, ?_⟩
      · refine ⟨?_, by omega⟩
        rw [hget q (by omega), List.append_assoc, List.getElem?_append_right h1, List.getElem?_append_left (by rw [zerosU_len]; omega)]
        unfold zerosU
        rw [List.getElem?_replicate, if_pos (by omega)]
      · intro j l hj k x hk
        match j, hj with
        | 0, hj =>
          cases hj
          have hkl := (List.getElem?_eq_some_iff.1 hk).1
          rw [List.take_zero, List.flatten_nil, List.length_nil, Nat.add_zero, Nat.add_zero, hst k hkl]
          refine ⟨fun h => ?_, fun h h2 => ?_⟩
          · have hks : k < s := of_decide_eq_true h
            refine ⟨by omega, ?_⟩
            rw [hget _ (by omega), List.getElem?_append_right (by rw [List.length_append, zerosU_len]; omega), List.length_append, zerosU_len, show a + k - (f.length + (a - f.length)) = k by omega, List.getElem?_take, if_pos hks]
            exact hk
          · have hks : ¬ k < s := of_decide_eq_false h
            exact p2 (a + k) (by omega) (by omega) h2
        | j + 1, hj =>
          have := p3 j l hj k x hk
          rw [List.take_succ_cons, List.flatten_cons, List.length_append]
          rw [show i + 1 + j = i + (j + 1) by omega, show a + l0.length + (L.take j).flatten.length + k = a + (l0.length + (L.take j).flatten.length) + k by omega] at this
          exact this
    · rw [if_neg h0] at h
      obtain ⟨p1, p2, p3⟩ := crash_bytes keep tear cut L (i + 1) (a + l0.length) f R (by omega) h
      refine ⟨p1, fun q h1 h2 h3 => p2 q h1 (by omega) h3, ?_⟩
      intro j l hj k x hk
      match j, hj with
      | 0, hj =>
        cases hj
        have hkl := (List.getElem?_eq_some_iff.1 hk).1
        rw [List.take_zero, List.flatten_nil, List.length_nil, Nat.add_zero, Nat.add_zero, hst k hkl]
        refine ⟨fun h => absurd (of_decide_eq_true h) (by omega), fun h h2 => p2 (a + k) (by omega) (by omega) h2⟩
      | j + 1, hj =>
        have := p3 j l hj k x hk
        rw [List.take_succ_cons, List.flatten_cons, List.length_append]
        rw [show i + 1 + j = i + (j + 1) by omega, show a + l0.length + (L.take j).flatten.length + k = a + (l0.length + (L.take j).flatten.length) + k by omega] at this
        exact this
/-- A byte's place, and what becomes of it. -/
theorem crash_at {X : FileT} {w : World} {B : Nat} (hL : LieF w B X) {keep : List Bool} {tear cut : Int} {R : List UInt8} (hR : crashGo keep tear cut X.s.loose 0 X.s.firm.length X.s.firm = R) {i : Nat} {p : PcT} (hp : X.L[i]? = some p) {k : Nat} {x : UInt8} (hk : p.l[k]? = some x) :
    ByteZ R (stayB i k keep tear cut) (X.F.n + sumN (X.L.take i) + k) x := by
  have h := (crash_bytes keep tear cut X.s.loose 0 X.s.firm.length X.s.firm R (Nat.le_refl _) hR).2.2 i p.l (by show (X.L.map (·.l))[i]? = some p.l; rw [List.getElem?_map, hp]; rfl) k x hk
  have e : ((X.s.loose.take i).flatten).length = sumN (X.L.take i) := by
    show (((X.L.map (·.l)).take i).flatten).length = _
    rw [← List.map_take, ← sumN_len (w := w) (B := B) (fun q hq => hL.loose q (List.mem_of_mem_take hq))]
    rfl
  rw [Nat.zero_add, e, show X.s.firm.length = X.F.n from hL.firm.len] at h
  exact h
theorem plain_step2 (fi : List UInt8) (lo : List (List UInt8)) (long : Nat) (x : DeedT) (h3 : whichN x.kind ≤ 3) (hb : whichN x.kind < 3 → x.bytes.n ≠ 0) :
    doS ⟨fi, lo, -1, -1, false⟩ long x = (⟨fi, lo, -1, -1, false⟩, 8) ∨ ∃ fi' lo', doS ⟨fi, lo, -1, -1, false⟩ long x = (⟨fi', lo', -1, -1, false⟩, 0) := by
  obtain ⟨more, fi', lo', h⟩ := doS_op x h3 hb fi lo long
  rw [h]
  unfold opS
  rw [asked_plain]
  by_cases hf : 524288 < long + more
  · exact .inl (by simp [hf])
  · exact .inr ⟨fi', lo', by simp [hf]⟩
end Go.Proofs.YtghmehfmchadoaaDoor
