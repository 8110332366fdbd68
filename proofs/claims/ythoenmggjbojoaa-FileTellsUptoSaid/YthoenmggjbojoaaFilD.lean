/-
  Layer 10: deeds that came in, opened.
-/
import Derived.Test.YthoenmggjbojoaaFilC
namespace Go.Proofs.Ythoenmggjbojoaa
open Go.ChangeShapes Go.WideShapes Go.ChangeAt Go.RowKit Go.Deep
set_option linter.unusedVariables false

/-- A row of truths, with its head. -/
structure BoT where
  A : Option Addr
  n : Nat
  c : Nat
  l : List Bool
def BoT.val (p : BoT) : Value := .slice p.A p.n p.c
def Bools (w : World) (B : Nat) (A : Option Addr) (n : Nat) (l : List Bool) : Prop := Shows w B 1 A n (l.map Value.bool)
theorem Bools.cell {w : World} {B n : Nat} {A : Option Addr} {l : List Bool} (h : Bools w B A n l) {k : Nat} (hk : k < n) : ∃ b off, A = some ⟨b, off, none⟩ ∧ b < B ∧ w.cell? ⟨b, off + k, none⟩ = some (.bool (l.getD k false)) := by
  obtain ⟨b, off, rfl, hb, hc⟩ := h.2 (by omega)
  have hl : l.length = n := by have := h.1; simpa using this
  have hp : l[k]? = some (l[k]'(by omega)) := List.getElem?_eq_getElem (by omega)
  refine ⟨b, off, rfl, hb, hc k _ ?_⟩
  rw [List.getElem?_map, hp, List.getD_eq_getElem?_getD, hp]
  rfl
structure BoT.Ok (w : World) (B : Nat) (p : BoT) : Prop where
  here : Bools w B p.A p.n p.l
  nil : p.A = none → p.c = 0
  fits : p.n ≤ p.c
  most : p.c ≤ maxLen
theorem BoT.Ok.later {w w' : World} {B : Nat} {p : BoT} (h : p.Ok w B) (hb : Below B w w') : p.Ok w' B := ⟨Shows.below h.here hb, h.nil, h.fits, h.most⟩
theorem BoT.Ok.more {w : World} {B B' : Nat} {p : BoT} (h : p.Ok w B) (hB : B ≤ B') : p.Ok w B' := ⟨Shows.more h.here hB, h.nil, h.fits, h.most⟩
/-- A deed. -/
structure DeedT where
  kind : Int
  n : Int
  tear : Int
  bytes : PcT
  keep : BoT
def DeedT.cells (x : DeedT) : List Value := [.int .i64 x.kind, .int .i64 x.n, .int .i64 x.tear, x.bytes.val, x.keep.val]
structure DeedT.Ok (w : World) (B N : Nat) (x : DeedT) : Prop where
  kind : (Lit.int .i64 x.kind).wf = true
  n : (Lit.int .i64 x.n).wf = true
  tear : (Lit.int .i64 x.tear).wf = true
  bytes : x.bytes.Ok w B
  keep : x.keep.Ok w B
  few : x.bytes.n ≤ N ∧ x.keep.n ≤ N
theorem DeedT.Ok.later {w w' : World} {B N : Nat} {x : DeedT} (h : x.Ok w B N) (hb : Below B w w') : x.Ok w' B N := ⟨h.kind, h.n, h.tear, h.bytes.later hb, h.keep.later hb, h.few⟩
theorem DeedT.Ok.more {w : World} {B B' N : Nat} {x : DeedT} (h : x.Ok w B N) (hB : B ≤ B') : x.Ok w B' N := ⟨h.kind, h.n, h.tear, h.bytes.more hB, h.keep.more hB, h.few⟩
def Deeds (w : World) (B : Nat) (A : Option Addr) (n : Nat) (l : List DeedT) : Prop := Shows w B 5 A n (l.flatMap DeedT.cells)
section
variable {H : Type} {enc : TypeId × Value → H} {P : Program} {w W : World} {base b0 : Nat} {spare : Nat → Bool} {held : Bool} {r : Reach} {t e : TypeId} {v : Value} {d : DataW H} {p : List MemPlace} {N : Nat}
theorem trod_boolsN (ht : P.underlying t = some (.slice e)) (he : P.underlying e = some .bool) (hC : P.cellsOf e = 1) {fuel : Nat} {cs : List Value} {x : DataW H × List MemPlace} (h : DataW.trod enc P w base spare held fuel t cs = some x) (hN : Rows.uptoBulk x.1 ≤ N) : ∃ q : BoT, cs = [q.val] ∧ q.Ok w w.heap.size ∧ q.n ≤ N := by
  obtain ⟨A, n, c, l, rfl, hS, _, h1, h2, h3⟩ := open_rowsN (fun b : Bool => [Value.bool b]) false 1 (by decide) (fun _ => rfl) (fun _ => True) ht hC (fun n' cs' y _ hl hy _ => by
    obtain ⟨b, hb, _⟩ := DataW.trod_bool he hy
    exact ⟨b, hb, trivial⟩) h hN
  rw [flat_one Value.bool] at hS
  exact ⟨⟨A, n, c, l⟩, rfl, ⟨hS, h1, h2, h3⟩, trod_lenN ht h hN⟩
theorem came_boolsN {A : Option Addr} {n c : Nat} (ht : P.underlying t = some (.slice e)) (he : P.underlying e = some .bool) (hC : P.cellsOf e = 1) (h : DataW.Trod enc P w base spare held t (.slice A n c) d p) (hN : Rows.uptoBulk d ≤ N) :
    ∃ l : List Bool, Bools w w.heap.size A n l ∧ n ≤ N ∧ (A = none → c = 0) ∧ n ≤ c ∧ c ≤ maxLen := by
  obtain ⟨fuel, hf⟩ := h
  obtain ⟨q, hq, hok, hl⟩ := trod_boolsN ht he hC (by simpa [Value.cells] using hf) hN
  obtain ⟨A', n', c', l⟩ := q
  simp [BoT.val] at hq
  obtain ⟨rfl, rfl, rfl⟩ := hq
  exact ⟨l, hok.here, hl, hok.nil, hok.fits, hok.most⟩
variable {f0 f1 f2 f3 f4 : Field} {eb ek : TypeId}
theorem trod_deedN (ht : P.underlying t = some (.struct #[f0, f1, f2, f3, f4])) (hone : oneCellFields P #[f0, f1, f2, f3, f4] = true)
    (k0 : P.underlying f0.type = some (.int .i64)) (k1 : P.underlying f1.type = some (.int .i64)) (k2 : P.underlying f2.type = some (.int .i64)) (k3 : P.underlying f3.type = some (.slice eb)) (kb : P.underlying eb = some (.int .u8)) (cb : P.cellsOf eb = 1) (k4 : P.underlying f4.type = some (.slice ek)) (kk : P.underlying ek = some .bool) (ck : P.cellsOf ek = 1)
    {fuel : Nat} {cs : List Value} {x : DataW H × List MemPlace} (hl5 : cs.length = 5) (hf' : DataW.trod enc P w base spare held fuel t cs = some x) (hN : Rows.uptoBulk x.1 ≤ N) : ∃ X : DeedT, cs = X.cells ∧ X.Ok w w.heap.size N := by
  match cs, hl5 with
  | [c0, c1', c2, c3, c4], _ =>
    obtain ⟨xs, n, hn, hx, _, hlen, hg⟩ := DataW.trod_struct ht hf'
    obtain ⟨o0, q0⟩ := hone_of hone 0 f0 rfl
    obtain ⟨o1, q1⟩ := hone_of hone 1 f1 rfl
    obtain ⟨o2, q2⟩ := hone_of hone 2 f2 rfl
    obtain ⟨o3, q3⟩ := hone_of hone 3 f3 rfl
    obtain ⟨o4, q4⟩ := hone_of hone 4 f4 rfl
    match xs, hlen with
    | [y0, y1, y2, y3, y4], _ =>
      have hy0 : DataW.trod enc P w base spare held n f0.type [c0] = some y0 := by simpa [o0, q0] using hg 0 f0 rfl
      have hy1 : DataW.trod enc P w base spare held n f1.type [c1'] = some y1 := by simpa [o1, q1] using hg 1 f1 rfl
      have hy2 : DataW.trod enc P w base spare held n f2.type [c2] = some y2 := by simpa [o2, q2] using hg 2 f2 rfl
      have hy3 : DataW.trod enc P w base spare held n f3.type [c3] = some y3 := by simpa [o3, q3] using hg 3 f3 rfl
      have hy4 : DataW.trod enc P w base spare held n f4.type [c4] = some y4 := by simpa [o4, q4] using hg 4 f4 rfl
      have hb : ∀ y ∈ [y0, y1, y2, y3, y4], Rows.uptoBulk y.1 ≤ N := fun y hy => by
        rw [hx] at hN
        exact Nat.le_trans (blk_agg (List.mem_map_of_mem (f := (·.1)) hy)) hN
      obtain ⟨z0, e0, _, w0⟩ := DataW.trod_int k0 hy0
      obtain ⟨z1, e1, _, w1⟩ := DataW.trod_int k1 hy1
      obtain ⟨z2, e2, _, w2⟩ := DataW.trod_int k2 hy2
      obtain ⟨F, e3, hF, nF⟩ := trod_pieceN k3 kb cb hy3 (hb y3 (by simp))
      obtain ⟨K, e4, hK, nK⟩ := trod_boolsN k4 kk ck hy4 (hb y4 (by simp))
      simp only [List.cons.injEq, and_true] at e0 e1 e2 e3 e4
      subst e0 e1 e2 e3 e4
      exact ⟨⟨z0, z1, z2, F, K⟩, rfl, ⟨w0, w1, w2, hF, hK, nF, nK⟩⟩
theorem came_deedsN {A : Option Addr} {n c : Nat} (hu : P.underlying e = some (.slice t)) (ht : P.underlying t = some (.struct #[f0, f1, f2, f3, f4])) (hone : oneCellFields P #[f0, f1, f2, f3, f4] = true) (hC : P.cellsOf t = 5)
    (k0 : P.underlying f0.type = some (.int .i64)) (k1 : P.underlying f1.type = some (.int .i64)) (k2 : P.underlying f2.type = some (.int .i64)) (k3 : P.underlying f3.type = some (.slice eb)) (kb : P.underlying eb = some (.int .u8)) (cb : P.cellsOf eb = 1) (k4 : P.underlying f4.type = some (.slice ek)) (kk : P.underlying ek = some .bool) (ck : P.cellsOf ek = 1)
    (h : DataW.Trod enc P w base spare held e (.slice A n c) d p) (hN : Rows.uptoBulk d ≤ N) : ∃ l : List DeedT, Deeds w w.heap.size A n l ∧ (∀ x ∈ l, x.Ok w w.heap.size N) ∧ n ≤ N ∧ (A = none → c = 0) ∧ n ≤ c ∧ c ≤ maxLen := by
  obtain ⟨fuel, hf⟩ := h
  have hf' : DataW.trod enc P w base spare held fuel e [.slice A n c] = some (d, p) := by simpa [Value.cells] using hf
  obtain ⟨A', n', c', l, hcs, h2, h3, h4, h5, h6⟩ := open_rowsN DeedT.cells ⟨0, 0, 0, ⟨none, 0, 0, []⟩, ⟨none, 0, 0, []⟩⟩ 5 (by decide) (fun _ => rfl) (fun x => x.Ok w w.heap.size N) hu hC (fun n' cs' y _ hl' hy' hb' => trod_deedN ht hone k0 k1 k2 k3 kb cb k4 kk ck hl' hy' hb') hf' hN
  simp at hcs
  obtain ⟨rfl, rfl, rfl⟩ := hcs
  exact ⟨l, h2, h3, trod_lenN hu hf' hN, h4, h5, h6⟩
end
end Go.Proofs.Ythoenmggjbojoaa
