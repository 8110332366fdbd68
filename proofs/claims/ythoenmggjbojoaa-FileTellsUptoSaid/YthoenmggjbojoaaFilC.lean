/-
  Layer 10: a file that came in, opened; within the second form's bound each of its rows is short.
-/
import Derived.Test.YthoenmggjbojoaaFilP
import Derived.Test.YthoenmggjbojoaaBlk
import Derived.Test.YthoenmggjbojoaaFr
import Derived.Deep.Slices
import Derived.Deep.Fields
import Derived.ChangeSame
namespace Go.Proofs.Ythoenmggjbojoaa
open Go.ChangeShapes Go.WideShapes Go.ChangeAt Go.RowKit Go.Deep
set_option linter.unusedVariables false

theorem bulk_pos {H : Type} (d : DataW H) : 1 ≤ Rows.uptoBulk d := by
  cases d with
  | lit x => cases x <;> simp [Rows.uptoBulk]
  | _ => simp [Rows.uptoBulk]
theorem bulk_len {H : Type} : ∀ l : List (DataW H), l.length ≤ Rows.uptoBulkAll l
  | [] => Nat.zero_le _
  | d :: r => by
    have h1 := bulk_pos d
    have h2 := bulk_len r
    rw [Rows.uptoBulkAll, List.length_cons]
    omega
theorem flat_one {α : Type} (f : α → Value) : ∀ l : List α, (l.flatMap fun x => [f x]) = l.map f
  | [] => rfl
  | a :: l => by rw [List.flatMap_cons, flat_one f l]; rfl
theorem u8_of {z : Int} (h : (Lit.int .u8 z).wf = true) : ∃ b : UInt8, bv b = .int .u8 z := by
  have h' : (decide (IntKind.u8.min ≤ z) && decide (z ≤ IntKind.u8.max)) = true := h
  rw [Bool.and_eq_true, decide_eq_true_iff, decide_eq_true_iff] at h'
  have h1 : 0 ≤ z := h'.1
  have h2 : z ≤ 255 := h'.2
  refine ⟨UInt8.ofNat z.toNat, ?_⟩
  unfold bv
  have : (UInt8.ofNat z.toNat).toNat = z.toNat := by simp; omega
  rw [this, Int.toNat_of_nonneg h1]
section
variable {H : Type} {enc : TypeId × Value → H} {P : Program} {w W : World} {base b0 : Nat} {spare : Nat → Bool} {held : Bool} {r : Reach} {t e : TypeId} {v : Value} {d : DataW H} {p : List MemPlace} {N : Nat}
theorem trod_lenN {fuel : Nat} {A : Option Addr} {n c : Nat} {x : DataW H × List MemPlace} (ht : P.underlying t = some (.slice e)) (h : DataW.trod enc P w base spare held fuel t [.slice A n c] = some x) (hN : Rows.uptoBulk x.1 ≤ N) : n ≤ N := by
  rcases DataW.trod_slice ht h with ⟨hcs, _⟩ | ⟨a, len, cap, elems, rest, n', hn, hcs, hx, _, hl, hm, hlen, hi, _, _⟩
  · simp at hcs
    omega
  · simp at hcs
    obtain ⟨_, rfl, _⟩ := hcs
    rw [hx] at hN
    have h1 := bulk_len (elems.map (·.1))
    rw [List.length_map, hlen] at h1
    simp only [Rows.uptoBulk] at hN
    omega
/-- A row of bytes that came in. -/
theorem trod_pieceN (ht : P.underlying t = some (.slice e)) (he : P.underlying e = some (.int .u8)) (hC : P.cellsOf e = 1) {fuel : Nat} {cs : List Value} {x : DataW H × List MemPlace} (h : DataW.trod enc P w base spare held fuel t cs = some x) (hN : Rows.uptoBulk x.1 ≤ N) : ∃ q : PcT, cs = [q.val] ∧ q.Ok w w.heap.size ∧ q.n ≤ N := by
  obtain ⟨A, n, c, l, rfl, hS, _, h1, h2, h3⟩ := open_rowsN (fun b : UInt8 => [bv b]) 0 1 (by decide) (fun _ => rfl) (fun _ => True) ht hC (fun n' cs' y _ hl hy _ => by
    obtain ⟨z, hz, _, hw⟩ := DataW.trod_int he hy
    obtain ⟨b, hb⟩ := u8_of hw
    exact ⟨b, by rw [hz, hb], trivial⟩) h hN
  rw [flat_one bv] at hS
  exact ⟨⟨A, n, c, l⟩, rfl, ⟨hS, h1, h2, h3⟩, trod_lenN ht h hN⟩
variable {f0 f1 f2 f3 f4 : Field} {eb : TypeId}
/-- A file that came in. -/
theorem came_fileN (ht : P.underlying t = some (.struct #[f0, f1, f2, f3, f4])) (hone : oneCellFields P #[f0, f1, f2, f3, f4] = true) (hC : P.cellsOf t = 5)
    (k0 : P.underlying f0.type = some (.slice eb)) (kb : P.underlying eb = some (.int .u8)) (cb : P.cellsOf eb = 1) (k1 : P.underlying f1.type = some (.slice f0.type)) (c1 : P.cellsOf f0.type = 1) (k2 : P.underlying f2.type = some (.int .i64)) (k3 : P.underlying f3.type = some (.int .i64)) (k4 : P.underlying f4.type = some .bool)
    (hv : Value.okWide P W r b0 t v) (h : DataW.Trod enc P w base spare held t v d p) (hN : Rows.uptoBulk d ≤ N) : ∃ X : FileT, v = X.agg ∧ LieF w w.heap.size X ∧ X.F.n ≤ N ∧ X.ln ≤ N ∧ ∀ q ∈ X.L, q.n ≤ N := by
  obtain ⟨cs, rfl, hsz⟩ := okWide_struct ht hv
  obtain ⟨fuel, hf⟩ := h
  have hf' : DataW.trod enc P w base spare held fuel t cs.toList = some (d, p) := by simpa [Value.cells] using hf
  have hl5 : cs.toList.length = 5 := by simpa using hsz.trans hC
  obtain ⟨cs⟩ := cs
  simp only at hf' hl5
  match cs, hl5 with
  | [c0, c1', c2, c3, c4], _ =>
    obtain ⟨xs, n, hn, hx, _, hlen, hg⟩ := DataW.trod_struct ht hf'
    obtain ⟨o0, q0⟩ := hone_of hone 0 f0 rfl
    obtain ⟨o1, q1⟩ := hone_of hone 1 f1 rfl
    obtain ⟨o2, q2⟩ := hone_of hone 2 f2 rfl
    obtain ⟨o3, q3⟩ := hone_of hone 3 f3 rfl
    obtain ⟨o4, q4⟩ := hone_of hone 4 f4 rfl
    match xs, hlen with
    | [y0, y1, y2, y3, y4], _ =>
      have hy0 : DataW.trod enc P w base spare held n f0.type [c0] = some y0 := by simpa [o0, q0] using hg 0 f0 rfl
      have hy1 : DataW.trod enc P w base spare held n f1.type [c1'] = some y1 := by simpa [o1, q1] using hg 1 f1 rfl
      have hy2 : DataW.trod enc P w base spare held n f2.type [c2] = some y2 := by simpa [o2, q2] using hg 2 f2 rfl
      have hy3 : DataW.trod enc P w base spare held n f3.type [c3] = some y3 := by simpa [o3, q3] using hg 3 f3 rfl
      have hy4 : DataW.trod enc P w base spare held n f4.type [c4] = some y4 := by simpa [o4, q4] using hg 4 f4 rfl
      have hb : ∀ y ∈ [y0, y1, y2, y3, y4], Rows.uptoBulk y.1 ≤ N := fun y hy => by
        have hd : d = _ := (Prod.ext_iff.1 hx).1
        rw [hd] at hN
        exact Nat.le_trans (blk_agg (List.mem_map_of_mem (f := (·.1)) hy)) hN
      obtain ⟨F, e0, hF, nF⟩ := trod_pieceN k0 kb cb hy0 (hb y0 (by simp))
      obtain ⟨A, m, c, L, e1, hS, hL, a1, a2, a3⟩ := open_rowsN (fun q : PcT => [q.val]) ⟨none, 0, 0, []⟩ 1 (by decide) (fun _ => rfl) (fun q => q.Ok w w.heap.size ∧ q.n ≤ N) k1 c1 (fun n' cs' y _ hl' hy' hb' => by
        obtain ⟨q, hq, h1, h2⟩ := trod_pieceN k0 kb cb hy' hb'
        exact ⟨q, hq, h1, h2⟩) hy1 (hb y1 (by simp))
      obtain ⟨z2, e2, _, w2⟩ := DataW.trod_int k2 hy2
      obtain ⟨z3, e3, _, w3⟩ := DataW.trod_int k3 hy3
      obtain ⟨z4, e4, _⟩ := DataW.trod_bool k4 hy4
      simp only [List.cons.injEq, and_true] at e0 e1 e2 e3 e4
      subst e0 e1 e2 e3 e4
      rw [flat_one PcT.val] at hS
      exact ⟨⟨F, A, m, c, L, z2, z3, z4⟩, rfl, ⟨hF, hS, fun q hq => (hL q hq).1, a1, a2, a3, w2, w3⟩, nF, trod_lenN k1 hy1 (hb y1 (by simp)), fun q hq => (hL q hq).2⟩
end
end Go.Proofs.Ythoenmggjbojoaa
