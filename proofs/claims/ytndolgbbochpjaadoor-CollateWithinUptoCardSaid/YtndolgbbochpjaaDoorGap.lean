import Derived.Test.YtndolgbbochpjaaDoorRows
import Derived.Test.YtndolgbbochpjaaDoorGae
import Derived.Deep.Modes
import Derived.Test.YtndolgbbochpjaaDoorGaj
import Derived.Test.YtndolgbbochpjaaDoorGai
import Derived.Test.YtndolgbbochpjaaDoorGaf
/-
  What the second form's bound gives: no part of a reading is greater than the whole. Rows of things that came in, each within the bound.
-/
namespace Go.Proofs.YtndolgbbochpjaaDoor
open Go.ChangeShapes Go.WideShapes Go.ChangeAt Go.RowKit Go.Deep
set_option linter.unusedVariables false

theorem blk_part {H : Type} {d : DataW H} : ∀ {l : List (DataW H)}, d ∈ l → Rows.uptoBulk d ≤ Rows.uptoBulkAll l
  | x :: r, h => by
    rw [Rows.uptoBulkAll]
    rcases List.mem_cons.1 h with rfl | h
    · omega
    · have := blk_part h; omega
theorem blk_agg {H : Type} {d : DataW H} {l : List (DataW H)} (h : d ∈ l) : Rows.uptoBulk d ≤ Rows.uptoBulk (.agg l) := by
  have := blk_part h
  rw [Rows.uptoBulk]
  omega
theorem blk_slice {H : Type} {d : DataW H} {l r : List (DataW H)} (h : d ∈ l) : Rows.uptoBulk d ≤ Rows.uptoBulk (.slice l r) := by
  have := blk_part h
  rw [Rows.uptoBulk]
  omega
theorem blk_str {H : Type} {s : ByteArray} {N : Nat} (h : Rows.uptoBulk (DataW.lit (H := H) (.string s.data.toList)) ≤ N) : s.size ≤ N := by
  rw [Rows.uptoBulk] at h
  have : s.data.toList.length = s.size := by rw [Array.length_toList]; rfl
  omega
theorem blk_all {H : Type} {l : List (DataW H)} (h : Rows.uptoSmall H l = true) {d : DataW H} (hd : d ∈ l) : Rows.uptoBulk d ≤ 1048576 := by
  have h1 := of_decide_eq_true h
  exact Nat.le_trans (blk_part hd) h1
section
variable {H : Type} {enc : TypeId × Value → H} {P : Program} {w W : World} {base : Nat} {spare : Nat → Bool} {held : Bool} {t e : TypeId} {N : Nat}
/-- A row of things that came in, one by one, each within the bound. -/
theorem open_rowsN {α : Type} (f : α → List Value) (z : α) (k : Nat) (hk : 0 < k) (hf : ∀ x, (f x).length = k) (Q : α → Prop) {fuel : Nat} {cs : List Value} {x : DataW H × List MemPlace} (ht : P.underlying t = some (.slice e)) (hC : P.cellsOf e = k)
    (hQ : ∀ n cs y, n < fuel → cs.length = k → DataW.trod enc P w base spare held n e cs = some y → Rows.uptoBulk y.1 ≤ N → ∃ x : α, cs = f x ∧ Q x)
    (h : DataW.trod enc P w base spare held fuel t cs = some x) (hN : Rows.uptoBulk x.1 ≤ N) : ∃ (A : Option Addr) (n c : Nat) (l : List α), cs = [.slice A n c] ∧ Shows w w.heap.size k A n (l.flatMap f) ∧ (∀ x ∈ l, Q x) ∧ (A = none → c = 0) ∧ n ≤ c ∧ c ≤ maxLen := by
  rcases DataW.trod_slice ht h with ⟨hcs, _⟩ | ⟨a, len, cap, elems, rest, n, hn, hcs, hx, _, hl, hm, hlen, hi, _, _⟩
  · exact ⟨none, 0, 0, [], hcs, ⟨by simp, fun h => absurd h (by decide)⟩, by simp, fun _ => rfl, Nat.le_refl _, Nat.zero_le _⟩
  · have hF : ∀ i, ∃ r : α, i < len → Q r ∧ ∀ j u, (f r)[j]? = some u → w.cell? (a.add (i * k + j)) = some u := by
      intro i
      by_cases hin : i < len
      · have h2 := hi i hin
        have hi' : i < elems.length := by rw [hlen]; exact hin
        rw [List.getElem?_eq_getElem hi'] at h2
        obtain ⟨cs', hc, htr⟩ := Option.bind_eq_some_iff.1 h2
        obtain ⟨_, hlen', hat⟩ := World.cells?_some hc
        rw [hC] at hlen' hat
        have hb : Rows.uptoBulk (elems[i]).1 ≤ N := by
          rw [hx] at hN
          exact Nat.le_trans (blk_slice (List.mem_map_of_mem (f := (·.1)) (List.getElem_mem hi'))) hN
        obtain ⟨r, rfl, hr⟩ := hQ n cs' _ (by omega) hlen' htr hb
        refine ⟨r, fun _ => ⟨hr, fun j u hu => ?_⟩⟩
        have hj : j < k := by have := (List.getElem?_eq_some_iff.1 hu).1; rw [hlen'] at this; exact this
        have := hat j hj
        rw [hu] at this
        rw [← this, ← Go.Deep.add_add]
      · exact ⟨z, fun h => absurd h hin⟩
    refine ⟨some a, len, cap, (List.range len).map fun i => Classical.choose (hF i), hcs, shows_rows f k hk hf _ fun i hi j u hu => (Classical.choose_spec (hF i) hi).2 j u hu, ?_, nofun, hl, hm⟩
    intro r hr
    obtain ⟨i, hi, rfl⟩ := List.mem_map.1 hr
    exact (Classical.choose_spec (hF i) (List.mem_range.1 hi)).1
theorem open_keysN {fuel : Nat} {cs : List Value} {x : DataW H × List MemPlace} (ht : P.underlying t = some (.slice e)) (hC : P.cellsOf e = 1) (he : P.underlying e = some .string) (h : DataW.trod enc P w base spare held fuel t cs = some x) (hN : Rows.uptoBulk x.1 ≤ N) :
    ∃ (A : Option Addr) (n c : Nat) (l : List ByteArray), cs = [.slice A n c] ∧ Shows w w.heap.size 1 A n (l.map Value.string) ∧ (∀ x ∈ l, x.size ≤ maxLen ∧ x.size ≤ N) ∧ (A = none → c = 0) ∧ n ≤ c ∧ c ≤ maxLen := by
  obtain ⟨A, n, c, l, h1, h2, h3⟩ := open_rowsN (fun s : ByteArray => [Value.string s]) ⟨#[]⟩ 1 (by decide) (fun _ => rfl) (fun s => s.size ≤ maxLen ∧ s.size ≤ N) ht hC (fun n cs y _ _ hy hb => by
    obtain ⟨s, e, hy1, hs⟩ := DataW.trod_string he hy
    rw [hy1] at hb
    exact ⟨s, e, hs, blk_str hb⟩) h hN
  have hfl : ∀ l : List ByteArray, l.flatMap (fun s => [Value.string s]) = l.map Value.string := by
    intro l
    induction l with
    | nil => rfl
    | cons x l ih => rw [List.flatMap_cons, ih]; rfl
  rw [hfl] at h2
  exact ⟨A, n, c, l, h1, h2, h3⟩
end
end Go.Proofs.YtndolgbbochpjaaDoor
/-
  Layer 4: a value that came in within the second form's bound: each string in it is short.
-/
namespace Go.Proofs.YtndolgbbochpjaaDoor
open Go.ChangeShapes Go.WideShapes Go.ChangeAt Go.RowKit Go.Deep
set_option linter.unusedVariables false

section
variable {H : Type} {enc : TypeId × Value → H} {P : Program} {w W : World} {base b0 : Nat} {spare : Nat → Bool} {held : Bool} {r : Reach} {t e : TypeId} {v : Value} {d : DataW H} {p : List MemPlace} {N : Nat} {f0 f1 f2 f3 f4 : Field} {ek : TypeId}
theorem trod_valueN (ht : P.underlying t = some (.struct #[f0, f1, f2, f3, f4])) (hone : oneCellFields P #[f0, f1, f2, f3, f4] = true) (hC : P.cellsOf t = 5)
    (k0 : P.underlying f0.type = some (.int .i64)) (k1 : P.underlying f1.type = some (.int .i64)) (k2 : P.underlying f2.type = some .string) (k3 : P.underlying f3.type = some (.slice t)) (k4 : P.underlying f4.type = some (.slice ek)) (k5 : P.underlying ek = some .string) (hk : P.cellsOf ek = 1) :
    ∀ (fuel : Nat) (cs : List Value) (x : DataW H × List MemPlace), cs.length = 5 → DataW.trod enc P w base spare held fuel t cs = some x → Rows.uptoBulk x.1 ≤ N → ∃ T : VT, cs = T.cells ∧ Lie w w.heap.size T ∧ Sml N T := by
  intro fuel
  induction fuel using Nat.strongRecOn with
  | ind fuel ih =>
    intro cs x hsz h hN
    match cs, hsz with
    | [c0, c1, c2, c3, c4], _ =>
      obtain ⟨xs, n, hn, hx, _, hlen, hg⟩ := DataW.trod_struct ht h
      obtain ⟨o0, q0⟩ := hone_of hone 0 f0 rfl
      obtain ⟨o1, q1⟩ := hone_of hone 1 f1 rfl
      obtain ⟨o2, q2⟩ := hone_of hone 2 f2 rfl
      obtain ⟨o3, q3⟩ := hone_of hone 3 f3 rfl
      obtain ⟨o4, q4⟩ := hone_of hone 4 f4 rfl
      match xs, hlen with
      | [y0, y1, y2, y3, y4], _ =>
        have hy0 : DataW.trod enc P w base spare held n f0.type [c0] = some y0 := by simpa [o0, q0] using hg 0 f0 rfl
        have hy1 : DataW.trod enc P w base spare held n f1.type [c1] = some y1 := by simpa [o1, q1] using hg 1 f1 rfl
        have hy2 : DataW.trod enc P w base spare held n f2.type [c2] = some y2 := by simpa [o2, q2] using hg 2 f2 rfl
        have hy3 : DataW.trod enc P w base spare held n f3.type [c3] = some y3 := by simpa [o3, q3] using hg 3 f3 rfl
        have hy4 : DataW.trod enc P w base spare held n f4.type [c4] = some y4 := by simpa [o4, q4] using hg 4 f4 rfl
        have hb : ∀ y ∈ [y0, y1, y2, y3, y4], Rows.uptoBulk y.1 ≤ N := fun y hy => by
          rw [hx] at hN
          exact Nat.le_trans (blk_agg (List.mem_map_of_mem (f := (·.1)) hy)) hN
        obtain ⟨z0, e0, _, w0⟩ := DataW.trod_int k0 hy0
        obtain ⟨z1, e1, _, w1⟩ := DataW.trod_int k1 hy1
        obtain ⟨s, e2, g2, hs⟩ := DataW.trod_string k2 hy2
        have hs2 : s.size ≤ N := by
          have := hb y2 (by simp)
          rw [g2] at this
          exact blk_str this
        obtain ⟨A3, n3, d3, l3, e3, hS3, hL3, a3, b3, m3⟩ := open_rowsN VT.cells (scV 0 0 ⟨#[]⟩) 5 (by decide) VT.cells_len (fun T => Lie w w.heap.size T ∧ Sml N T) k3 hC (fun n' cs' y hn' hl' hy' hb' => ih n' (by omega) cs' y hl' hy' hb') hy3 (hb y3 (by simp))
        obtain ⟨A4, n4, d4, l4, e4, hS4, hL4, a4, b4, m4⟩ := open_keysN k4 hk k5 hy4 (hb y4 (by simp))
        simp at e0 e1 e2 e3 e4
        subst e0 e1 e2 e3 e4
        exact ⟨.mk z0 z1 s A3 n3 d3 A4 n4 d4 l4 l3, rfl, .mk hS3 hS4 ⟨w0, w1, hs, b3, m3, a3, b4, m4, a4, fun x hx => (hL4 x hx).1⟩ (fun x hx => (hL3 x hx).1), .mk hs2 (fun x hx => (hL4 x hx).2) (fun x hx => (hL3 x hx).2)⟩
theorem came_valueN (ht : P.underlying t = some (.struct #[f0, f1, f2, f3, f4])) (hone : oneCellFields P #[f0, f1, f2, f3, f4] = true) (hC : P.cellsOf t = 5)
    (k0 : P.underlying f0.type = some (.int .i64)) (k1 : P.underlying f1.type = some (.int .i64)) (k2 : P.underlying f2.type = some .string) (k3 : P.underlying f3.type = some (.slice t)) (k4 : P.underlying f4.type = some (.slice ek)) (k5 : P.underlying ek = some .string) (hk : P.cellsOf ek = 1)
    (hv : Value.okWide P W r b0 t v) (h : DataW.Trod enc P w base spare held t v d p) (hN : Rows.uptoBulk d ≤ N) : ∃ T : VT, v = T.agg ∧ Lie w w.heap.size T ∧ Sml N T := by
  obtain ⟨cs, rfl, hsz⟩ := okWide_struct ht hv
  obtain ⟨fuel, hf⟩ := h
  obtain ⟨T, hT, hL⟩ := trod_valueN ht hone hC k0 k1 k2 k3 k4 k5 hk fuel cs.toList _ (by simpa using hsz.trans hC) (by simpa [Value.cells] using hf) hN
  refine ⟨T, ?_, hL⟩
  rw [← Array.toArray_toList (xs := cs), hT]
  cases T; rfl
theorem came_keysN {A : Option Addr} {n c : Nat} (hu : P.underlying t = some (.slice e)) (hC : P.cellsOf e = 1) (he : P.underlying e = some .string) (h : DataW.Trod enc P w base spare held t (.slice A n c) d p) (hN : Rows.uptoBulk d ≤ N) :
    ∃ l : List ByteArray, Shows w w.heap.size 1 A n (l.map Value.string) ∧ (∀ x ∈ l, x.size ≤ maxLen ∧ x.size ≤ N) ∧ (A = none → c = 0) ∧ n ≤ c ∧ c ≤ maxLen := by
  obtain ⟨fuel, hf⟩ := h
  obtain ⟨A', n', c', l, hcs, h2, h3, h4⟩ := open_keysN hu hC he hf hN
  simp [Value.cells] at hcs
  obtain ⟨rfl, rfl, rfl⟩ := hcs
  exact ⟨l, h2, h3, h4⟩
variable {tp : TypeId} {g0 g1 : Field}
theorem trod_pairN (hp : P.underlying tp = some (.struct #[g0, g1])) (o0 : g0.offset = 0) (o1 : g1.offset = 1) (c0 : P.cellsOf g0.type = 1) (c1 : P.cellsOf g1.type = 5) (q0 : P.underlying g0.type = some .string)
    (ht : P.underlying g1.type = some (.struct #[f0, f1, f2, f3, f4])) (hone : oneCellFields P #[f0, f1, f2, f3, f4] = true)
    (k0 : P.underlying f0.type = some (.int .i64)) (k1 : P.underlying f1.type = some (.int .i64)) (k2 : P.underlying f2.type = some .string) (k3 : P.underlying f3.type = some (.slice g1.type)) (k4 : P.underlying f4.type = some (.slice ek)) (k5 : P.underlying ek = some .string) (hk : P.cellsOf ek = 1) :
    ∀ (fuel : Nat) (cs : List Value) (x : DataW H × List MemPlace), cs.length = 6 → DataW.trod enc P w base spare held fuel tp cs = some x → Rows.uptoBulk x.1 ≤ N → ∃ p : PT, cs = pCells p ∧ (Lie w w.heap.size p.2 ∧ p.1.size ≤ maxLen) ∧ Sml N p.2 ∧ p.1.size ≤ N := by
  intro fuel cs x hsz h hN
  match cs, hsz with
  | [b0, b1, b2, b3, b4, b5], _ =>
    obtain ⟨xs, n, hn, hx, _, hlen, hg⟩ := DataW.trod_struct hp h
    match xs, hlen with
    | [y0, y1], _ =>
      have hy0 : DataW.trod enc P w base spare held n g0.type [b0] = some y0 := by simpa [o0, c0] using hg 0 g0 rfl
      have hy1 : DataW.trod enc P w base spare held n g1.type [b1, b2, b3, b4, b5] = some y1 := by simpa [o1, c1] using hg 1 g1 rfl
      have hb : ∀ y ∈ [y0, y1], Rows.uptoBulk y.1 ≤ N := fun y hy => by
        rw [hx] at hN
        exact Nat.le_trans (blk_agg (List.mem_map_of_mem (f := (·.1)) hy)) hN
      obtain ⟨s, e2, g2, hs⟩ := DataW.trod_string q0 hy0
      have hs2 : s.size ≤ N := by
        have := hb y0 (by simp)
        rw [g2] at this
        exact blk_str this
      obtain ⟨T, hT, hL, hM⟩ := trod_valueN ht hone c1 k0 k1 k2 k3 k4 k5 hk n _ _ rfl hy1 (hb y1 (by simp))
      simp at e2
      subst e2
      exact ⟨(s, T), by rw [hT]; rfl, ⟨hL, hs⟩, hM, hs2⟩
theorem came_pairsN {A : Option Addr} {n c : Nat} (hu : P.underlying e = some (.slice tp)) (hp : P.underlying tp = some (.struct #[g0, g1])) (hC : P.cellsOf tp = 6) (o0 : g0.offset = 0) (o1 : g1.offset = 1) (c0 : P.cellsOf g0.type = 1) (c1 : P.cellsOf g1.type = 5) (q0 : P.underlying g0.type = some .string)
    (ht : P.underlying g1.type = some (.struct #[f0, f1, f2, f3, f4])) (hone : oneCellFields P #[f0, f1, f2, f3, f4] = true)
    (k0 : P.underlying f0.type = some (.int .i64)) (k1 : P.underlying f1.type = some (.int .i64)) (k2 : P.underlying f2.type = some .string) (k3 : P.underlying f3.type = some (.slice g1.type)) (k4 : P.underlying f4.type = some (.slice ek)) (k5 : P.underlying ek = some .string) (hk : P.cellsOf ek = 1)
    (h : DataW.Trod enc P w base spare held e (.slice A n c) d p) (hN : Rows.uptoBulk d ≤ N) : ∃ l : List PT, Shows w w.heap.size 6 A n (l.flatMap pCells) ∧ (∀ p ∈ l, (Lie w w.heap.size p.2 ∧ p.1.size ≤ maxLen) ∧ Sml N p.2 ∧ p.1.size ≤ N) ∧ (A = none → c = 0) ∧ n ≤ c ∧ c ≤ maxLen := by
  obtain ⟨fuel, hf⟩ := h
  obtain ⟨A', n', c', l, hcs, h2, h3, h4⟩ := open_rowsN pCells (⟨#[]⟩, scV 0 0 ⟨#[]⟩) 6 (by decide) pCells_len (fun p : PT => (Lie w w.heap.size p.2 ∧ p.1.size ≤ maxLen) ∧ Sml N p.2 ∧ p.1.size ≤ N) hu hC (fun n' cs' y _ hl' hy' hb' => trod_pairN hp o0 o1 c0 c1 q0 ht hone k0 k1 k2 k3 k4 k5 hk n' cs' y hl' hy' hb') hf hN
  simp [Value.cells] at hcs
  obtain ⟨rfl, rfl, rfl⟩ := hcs
  exact ⟨l, h2, h3, h4⟩
end
end Go.Proofs.YtndolgbbochpjaaDoor
/-
  Layer 7: Place.
-/
namespace Go.Proofs.YtndolgbbochpjaaDoor
open Go.RowKit
set_option linter.unusedVariables false

theorem rows_two {w : World} {B g n c : Nat} {A : Option Addr} {L : List VT} {g2 : Nat} {T : VT} (h : Shows w B 5 A n (L.flatMap VT.cells)) (hL : ∀ x ∈ L, Lie w B x) (hn : n ≤ 1000) (hT : Shows w B 5 (some ⟨g2, 0, none⟩) 1 ([T].flatMap VT.cells)) (hLT : Lie w B T)
    (h0 : w.cell? ⟨g, 0, none⟩ = some (.slice A n c)) (h1 : w.cell? ⟨g, 1, none⟩ = some (.slice (some ⟨g2, 0, none⟩) 1 1)) (hg : g < B) :
    RowsOf w B (some ⟨g, 0, none⟩) 2 [⟨A, n, c, L⟩, ⟨some ⟨g2, 0, none⟩, 1, 1, [T]⟩] := by
  refine ⟨⟨rfl, fun _ => ⟨g, 0, rfl, hg, fun i v hv => ?_⟩⟩, fun r hr => ?_⟩
  · match i, hv with
    | 0, hv => injection hv with hv; subst hv; exact h0
    | 1, hv => injection hv with hv; subst hv; exact h1
    | i + 2, hv => simp at hv
  · rcases List.mem_cons.1 hr with rfl | hr
    · exact ⟨h, hL, hn⟩
    · rw [List.mem_singleton] at hr
      subst hr
      exact ⟨hT, fun x hx => by rw [List.mem_singleton] at hx; subst hx; exact hLT, by show (1 : Nat) ≤ 1000; omega⟩
def PlP (L : List VT) (T : VT) (X : Int × Int) (E : Int) : Prop := ((L.all VT.ok && T.ok) = false ∧ X = (0, 0) ∧ E = 140) ∨ ((L.all VT.ok && T.ok) = true ∧ PlQ L T X E)
set_option maxRecDepth 20000 in
set_option maxHeartbeats 2000000 in
theorem placeT_any (A : Option Addr) (n c B : Nat) (L : List VT) (T : VT) (w : World) (h : Shows w B 5 A n (L.flatMap VT.cells)) (hL : ∀ x ∈ L, Lie w B x) (hT : Lie w B T) (hB : B ≤ w.heap.size) (hn : n ≤ 1000) (htab : UTab w) (hst : STab w) (hr : RTab w) :
    Calls Tryd.prog 16 #[.slice A n c, T.agg] w fun e w' => ∃ X E, e = .returned (.tuple #[.int .i64 X.1, .int .i64 X.2, .int .i64 E]) ∧ Hid (PlP L T X E) ∧ Below w.heap.size w w' := by
  obtain ⟨tk, tn, ts, tcA, tcn, tcc, tkA, tkn, tkc, tkeys, tkids⟩ := T
  have hb := bel_alloc (bel_alloc (bel_alloc (bel_alloc (Below.refl w.heap.size w) (.cells #[.slice A n c] 22)) (.cells #[.int .i64 tk, .int .i64 tn, .string ts, .slice tcA tcn tcc, .slice tkA tkn tkc] 25)) (.cells #[.int .i64 tk, .int .i64 tn, .string ts, .slice tcA tcn tcc, .slice tkA tkn tkc] 25)) (.cells #[.slice A n c, .slice (some ⟨w.heap.size + 2, 0, none⟩) 1 1] 22)
  have hsz : ((((w.alloc (.cells #[.slice A n c] 22)).alloc (.cells #[.int .i64 tk, .int .i64 tn, .string ts, .slice tcA tcn tcc, .slice tkA tkn tkc] 25)).alloc (.cells #[.int .i64 tk, .int .i64 tn, .string ts, .slice tcA tcn tcc, .slice tkA tkn tkc] 25)).alloc (.cells #[.slice A n c, .slice (some ⟨w.heap.size + 2, 0, none⟩) 1 1] 22)).heap.size = w.heap.size + 4 := by simp
  have c0 : ((((w.alloc (.cells #[.slice A n c] 22)).alloc (.cells #[.int .i64 tk, .int .i64 tn, .string ts, .slice tcA tcn tcc, .slice tkA tkn tkc] 25)).alloc (.cells #[.int .i64 tk, .int .i64 tn, .string ts, .slice tcA tcn tcc, .slice tkA tkn tkc] 25)).alloc (.cells #[.slice A n c, .slice (some ⟨w.heap.size + 2, 0, none⟩) 1 1] 22)).cell? ⟨w.heap.size, 0, none⟩ = some (.slice A n c) := (((((Box.new w #[.slice A n c] 22).alloc (.cells #[.int .i64 tk, .int .i64 tn, .string ts, .slice tcA tcn tcc, .slice tkA tkn tkc] 25)).alloc (.cells #[.int .i64 tk, .int .i64 tn, .string ts, .slice tcA tcn tcc, .slice tkA tkn tkc] 25)).alloc (.cells #[.slice A n c, .slice (some ⟨w.heap.size + 2, 0, none⟩) 1 1] 22)) 0 _ rfl).1
  have c1 := ((VFive.new (w.alloc (.cells #[.slice A n c] 22)) (.int .i64 tk) (.int .i64 tn) (.string ts) (.slice tcA tcn tcc) (.slice tkA tkn tkc) 25 (w.heap.size + 1) (World.size_alloc _ _)).alloc (.cells #[.int .i64 tk, .int .i64 tn, .string ts, .slice tcA tcn tcc, .slice tkA tkn tkc] 25)).alloc (.cells #[.slice A n c, .slice (some ⟨w.heap.size + 2, 0, none⟩) 1 1] 22)
  have c2 := (VFive.new ((w.alloc (.cells #[.slice A n c] 22)).alloc (.cells #[.int .i64 tk, .int .i64 tn, .string ts, .slice tcA tcn tcc, .slice tkA tkn tkc] 25)) (.int .i64 tk) (.int .i64 tn) (.string ts) (.slice tcA tcn tcc) (.slice tkA tkn tkc) 25 (w.heap.size + 2) (by simp)).alloc (.cells #[.slice A n c, .slice (some ⟨w.heap.size + 2, 0, none⟩) 1 1] 22)
  have e3 : (((w.alloc (.cells #[.slice A n c] 22)).alloc (.cells #[.int .i64 tk, .int .i64 tn, .string ts, .slice tcA tcn tcc, .slice tkA tkn tkc] 25)).alloc (.cells #[.int .i64 tk, .int .i64 tn, .string ts, .slice tcA tcn tcc, .slice tkA tkn tkc] 25)).heap.size = w.heap.size + 3 := by simp
  have c3 : ((((w.alloc (.cells #[.slice A n c] 22)).alloc (.cells #[.int .i64 tk, .int .i64 tn, .string ts, .slice tcA tcn tcc, .slice tkA tkn tkc] 25)).alloc (.cells #[.int .i64 tk, .int .i64 tn, .string ts, .slice tcA tcn tcc, .slice tkA tkn tkc] 25)).alloc (.cells #[.slice A n c, .slice (some ⟨w.heap.size + 2, 0, none⟩) 1 1] 22)).cell? ⟨w.heap.size + 3, 0, none⟩ = some (.slice A n c) := by
    have := (Box.new (((w.alloc (.cells #[.slice A n c] 22)).alloc (.cells #[.int .i64 tk, .int .i64 tn, .string ts, .slice tcA tcn tcc, .slice tkA tkn tkc] 25)).alloc (.cells #[.int .i64 tk, .int .i64 tn, .string ts, .slice tcA tcn tcc, .slice tkA tkn tkc] 25)) #[.slice A n c, .slice (some ⟨w.heap.size + 2, 0, none⟩) 1 1] 22 0 _ rfl).1
    rwa [e3] at this
  have c4 : ((((w.alloc (.cells #[.slice A n c] 22)).alloc (.cells #[.int .i64 tk, .int .i64 tn, .string ts, .slice tcA tcn tcc, .slice tkA tkn tkc] 25)).alloc (.cells #[.int .i64 tk, .int .i64 tn, .string ts, .slice tcA tcn tcc, .slice tkA tkn tkc] 25)).alloc (.cells #[.slice A n c, .slice (some ⟨w.heap.size + 2, 0, none⟩) 1 1] 22)).cell? ⟨w.heap.size + 3, 1, none⟩ = some (.slice (some ⟨w.heap.size + 2, 0, none⟩) 1 1) := by
    have := (Box.new (((w.alloc (.cells #[.slice A n c] 22)).alloc (.cells #[.int .i64 tk, .int .i64 tn, .string ts, .slice tcA tcn tcc, .slice tkA tkn tkc] 25)).alloc (.cells #[.int .i64 tk, .int .i64 tn, .string ts, .slice tcA tcn tcc, .slice tkA tkn tkc] 25)) #[.slice A n c, .slice (some ⟨w.heap.size + 2, 0, none⟩) 1 1] 22 1 _ rfl).1
    rwa [e3] at this
  have hrow := rows_two (B := ((((w.alloc (.cells #[.slice A n c] 22)).alloc (.cells #[.int .i64 tk, .int .i64 tn, .string ts, .slice tcA tcn tcc, .slice tkA tkn tkc] 25)).alloc (.cells #[.int .i64 tk, .int .i64 tn, .string ts, .slice tcA tcn tcc, .slice tkA tkn tkc] 25)).alloc (.cells #[.slice A n c, .slice (some ⟨w.heap.size + 2, 0, none⟩) 1 1] 22)).heap.size) (g := w.heap.size + 3) (c := c) (g2 := w.heap.size + 2) (T := .mk tk tn ts tcA tcn tcc tkA tkn tkc tkeys tkids) ((h.below (hb.mono hB)).more (Nat.le_trans hB hb.size)) (fun x hx => ((hL x hx).later (hb.mono hB)).more (Nat.le_trans hB hb.size)) hn
    ⟨rfl, fun _ => ⟨w.heap.size + 2, 0, rfl, by rw [hsz]; omega, fun i v hv => by rw [Nat.zero_add]; exact five_cells c2 i v (by simpa [VT.cells] using hv)⟩⟩ ((hT.later (hb.mono hB)).more (Nat.le_trans hB hb.size)) c3 c4 (by rw [hsz]; omega)
  have hck := chkP_any w.heap.size (w.heap.size + 1) (PlQ L (.mk tk tn ts tcA tcn tcc tkA tkn tkc tkeys tkids)) _ 2 2 _ _ ((((w.alloc (.cells #[.slice A n c] 22)).alloc (.cells #[.int .i64 tk, .int .i64 tn, .string ts, .slice tcA tcn tcc, .slice tkA tkn tkc] 25)).alloc (.cells #[.int .i64 tk, .int .i64 tn, .string ts, .slice tcA tcn tcc, .slice tkA tkn tkc] 25)).alloc (.cells #[.slice A n c, .slice (some ⟨w.heap.size + 2, 0, none⟩) 1 1] 22)) hrow (Nat.le_refl _) (by decide) (htab.below hb htab.lt) (hst.below hb hst.lt) (fun hok W hbW => by
    have hb2 := bel_next hb hbW
    have hok' : (∀ x ∈ L, x.ok = true) ∧ (VT.mk tk tn ts tcA tcn tcc tkA tkn tkc tkeys tkids).ok = true := by simpa [okR] using hok
    have hlt : w.heap.size < ((((w.alloc (.cells #[.slice A n c] 22)).alloc (.cells #[.int .i64 tk, .int .i64 tn, .string ts, .slice tcA tcn tcc, .slice tkA tkn tkc] 25)).alloc (.cells #[.int .i64 tk, .int .i64 tn, .string ts, .slice tcA tcn tcc, .slice tkA tkn tkc] 25)).alloc (.cells #[.slice A n c, .slice (some ⟨w.heap.size + 2, 0, none⟩) 1 1] 22)).heap.size := by rw [hsz]; omega
    exact placeW_any A n c B w.heap.size (w.heap.size + 1) L _ W (h.below (hb2.mono hB)) (fun x hx => ⟨(hL x hx).later (hb2.mono hB), hok'.1 x hx⟩) (hT.later (hb2.mono hB)) hok'.2 (Nat.le_trans hB hb2.size) hn (hr.below hb2 hr.lt) ((hbW.cell (p := ⟨w.heap.size, 0, none⟩) hlt).trans c0) (five_cells (c1.later hbW)))
  have HO := Lib.hid (by simp [okR] : okR [(⟨A, n, c, L⟩ : RowT), ⟨some ⟨w.heap.size + 2, 0, none⟩, 1, 1, [.mk tk tn ts tcA tcn tcc tkA tkn tkc tkeys tkids]⟩] = (L.all VT.ok && (VT.mk tk tn ts tcA tcn tcc tkA tkn tkc tkeys tkids).ok))
  obtain ⟨⟨v0, v1, v2, v3, v4⟩, -⟩ := c1
  simp only [VT.agg]
  clear h hL hT htab hst hr hrow c2 c3 c4 hsz e3
  go_enter Tryd.func16, Tryd.ntmps16
  go_wp2_with fail
  refine hck.mono ?_
  rintro e w1 ⟨hres, hb1⟩
  have hbw := bel_next hb hb1
  have hX : ∃ X E, e = .returned (.tuple #[.agg #[.int .i64 X.1, .int .i64 X.2], .int .i64 E]) ∧ PlP L (.mk tk tn ts tcA tcn tcc tkA tkn tkc tkeys tkids) X E := by
    rcases hres with ⟨h1, h2⟩ | ⟨h1, X, E, h2, hq⟩
    · rw [HO.out] at h1
      exact ⟨(0, 0), 140, h2, .inl ⟨h1, rfl, rfl⟩⟩
    · rw [HO.out] at h1
      exact ⟨X, E, h2, .inr ⟨h1, hq⟩⟩
  obtain ⟨⟨xa, xb⟩, E, rfl, hP⟩ := hX
  have HP := Lib.hid hP
  simp only
  clear hck hres HO hP c0 v0 v1 v2 v3 v4
  have hbx := bel_alloc hbw (.cells #[.int .i64 xa, .int .i64 xb] 60)
  have HV := VTwo.new w1 (.int .i64 xa) (.int .i64 xb) 60 w1.heap.size rfl
  obtain ⟨⟨y0, y1⟩, -⟩ := HV
  go_wp2
  go_quiet (fail)
  go_wp2
  refine bodyPost_ret (v := .tuple #[.int .i64 xa, .int .i64 xb, .int .i64 E]) ?_ rfl ⟨(xa, xb), E, rfl, HP, below_drewN hbx _⟩
  simp [results, Tryd.results16, go_sem, *]
end Go.Proofs.YtndolgbbochpjaaDoor
/-
  Layer 7: what the law's own wakes leans on: whole numbers and lists of them.
-/
namespace Go.Proofs.YtndolgbbochpjaaDoor
open Go.RowKit
set_option linter.unusedVariables false

abbrev inV (n : Int) : VT := scV 3 n ⟨#[]⟩
theorem in_ok (n : Int) : (inV n).ok = true := by
  refine sc_ok _ _ _ (by decide) ?_
  unfold scV
  rw [fit_mk, strB_nil]
  have h2 : numB 3 n = true := rfl
  rw [h2]
  decide
theorem cmp_in (a b : Int) : cmpV (inV a) (inV b) = cmpQ a b := by
  unfold cmpV
  rw [cmpF]
  have h1 : rankV (inV a) = rankV (inV b) := rfl
  rw [h1, cmpQ_self, thenI_0]
  show thenI (cmpQ a b) (thenI (vcmp ⟨#[]⟩ ⟨#[]⟩) (lexL _ [] [])) = _
  rw [vcmp_self, thenI_0]
  exact thenI_r0 _
theorem lie_in (n : Int) (w : World) (B : Nat) (hn : (Lit.int .i64 n).wf = true) : Lie w B (inV n) := lie_sc _ _ _ _ _ (by decide) hn (by decide)
theorem ints_ok (A : Option Addr) (n c : Nat) (l : List Int) (h : l.length ≤ 100) : (lsV A n c (l.map inV)).ok = true := by
  have hd : (lsV A n c (l.map inV)).dep ≤ 1 := by
    rw [dep_mk]
    have : ∀ l : List Int, maxL ((l.map inV).map VT.dep) = 0 := by
      intro l
      induction l with
      | nil => rfl
      | cons x l ih => rw [List.map_cons, List.map_cons, maxL_cons, ih, sc_dep]; rfl
    rw [this]
    decide
  have hc : (lsV A n c (l.map inV)).cnt ≤ 101 := by
    rw [cnt_mk]
    have : ∀ l : List Int, ((l.map inV).map VT.cnt).sum = l.length := by
      intro l
      induction l with
      | nil => rfl
      | cons x l ih => rw [List.map_cons, List.map_cons, List.sum_cons, ih, sc_cnt, List.length_cons]; omega
    rw [this]
    omega
  have ha : (lsV A n c (l.map inV)).all = true := by
    rw [all_mk, fit_mk, strB_nil]
    have h3 : eleB 5 n = true := by unfold eleB eleQ shKids; simp
    have h4 : memB 5 n 0 [] = true := rfl
    rw [h3, h4]
    simp only [Bool.and_eq_true, List.all_eq_true]
    refine ⟨by decide, fun x hx => ?_⟩
    obtain ⟨m, -, rfl⟩ := List.mem_map.1 hx
    have := in_ok m
    unfold VT.ok at this
    simp only [Bool.and_eq_true] at this
    exact this.2.2
  unfold VT.ok
  rw [ha]
  simp only [Bool.and_eq_true, decide_eq_true_eq, and_true]
  omega
theorem lie_lsS {w : World} {B : Nat} {A : Option Addr} {n c : Nat} {l : List VT} (h : Shows w B 5 A n (l.flatMap VT.cells)) (hl : ∀ x ∈ l, Lie w B x) (hA : A = none → c = 0) (hnc : n ≤ c) (hc : c ≤ maxLen) : Lie w B (lsV A n c l) :=
  .mk h (Shows.zero none) ⟨by decide, by decide, by decide, hnc, hc, hA, Nat.le_refl _, by decide, fun _ => rfl, by simp⟩ hl
set_option maxRecDepth 20000 in
theorem in_any (n : Int) (w : World) : Calls Tryd.prog 30 #[.int .i64 n] w fun e w' => e = .returned (.agg #[.int .i64 3, .int .i64 n, .string ⟨#[]⟩, .slice none 0 0, .slice none 0 0]) ∧ Below w.heap.size w w' := by
  go_enter Tryd.func30, Tryd.ntmps30
  go_wp2
  refine bodyPost_ret (v := .agg #[.int .i64 3, .int .i64 n, .string ⟨#[]⟩, .slice none 0 0, .slice none 0 0]) ?_ rfl ⟨rfl, bel_alloc (Below.refl _ _) _⟩
  simp [results, Tryd.results30, go_sem, *]
set_option maxRecDepth 20000 in
theorem list1_any (A : Option Addr) (n c : Nat) (w : World) : Calls Tryd.prog 27 #[.slice A n c] w fun e w' => e = .returned (.agg #[.int .i64 5, .int .i64 0, .string ⟨#[]⟩, .slice A n c, .slice none 0 0]) ∧ Below w.heap.size w w' := by
  go_enter Tryd.func27, Tryd.ntmps27
  go_wp2
  refine bodyPost_ret (v := .agg #[.int .i64 5, .int .i64 0, .string ⟨#[]⟩, .slice A n c, .slice none 0 0]) ?_ rfl ⟨rfl, bel_alloc (Below.refl _ _) _⟩
  simp [results, Tryd.results27, go_sem, *]
/-- Values in order, no two alike: one row alone. -/
theorem rise_one {L M : List VT} (hM : M.Pairwise fun x y => cmpV x y < 0) (h : Rise L) (hp : L.Perm M) : L = M := by
  refine hp.eq_of_pairwise (le := fun x y => cmpV x y ≤ 0) (fun a b ha hb h1 h2 => ?_) h (hM.imp fun h => by omega)
  have hz : cmpV a b = 0 := by have := cmpV_is.turn a b; omega
  have ha' := hp.mem_iff.1 ha
  obtain ⟨i, hi, rfl⟩ := List.getElem_of_mem ha'
  obtain ⟨j, hj, rfl⟩ := List.getElem_of_mem hb
  rcases Nat.lt_trichotomy i j with hlt | rfl | hlt
  · have := List.pairwise_iff_getElem.1 hM i j hi hj hlt; omega
  · rfl
  · have := List.pairwise_iff_getElem.1 hM j i hj hi hlt
    have ht := cmpV_is.turn M[i] M[j]
    omega
theorem cmp_wake1 (A A' : Option Addr) (c c' : Nat) : cmpT (lsV A 2 c [inV 1, inV 2]) (lsV A' 1 c' [inV 1]) = .tuple #[.int .i64 1, .int .i64 0] := by
  unfold cmpT
  rw [show (lsV A 2 c [inV 1, inV 2]).ok = true from ints_ok A 2 c [1, 2] (by decide), show (lsV A' 1 c' [inV 1]).ok = true from ints_ok A' 1 c' [1] (by decide)]
  have h : cmpV (lsV A 2 c [inV 1, inV 2]) (lsV A' 1 c' [inV 1]) = 1 := by
    unfold cmpV
    rw [cmpF]
    have h1 : rankV (lsV A 2 c [inV 1, inV 2]) = rankV (lsV A' 1 c' [inV 1]) := rfl
    rw [h1, cmpQ_self, thenI_0]
    show thenI (cmpQ 0 0) (thenI (vcmp ⟨#[]⟩ ⟨#[]⟩) (lexL (cmpE (cmpF 8)) [(⟨#[]⟩, inV 1), (⟨#[]⟩, inV 2)] [(⟨#[]⟩, inV 1)])) = _
    rw [cmpQ_self, thenI_0, vcmp_self, thenI_0, lexL, (cmpE_is (cmpF_is 8)).self, thenI_0]
    rfl
  rw [h]
  rfl
theorem cmp_wake2 : cmpT (scV 0 0 ⟨#[]⟩) (inV 1) = .tuple #[.int .i64 0, .int .i64 140] := by
  unfold cmpT
  rw [z_ok]
  rfl
theorem cmpQ_lt {a b : Int} (h : a < b) : cmpQ a b = -1 := if_pos h
theorem place_wake1 {X : Int × Int} {E : Int} (h : PlP [inV 1, inV 3, inV 3, inV 4] (inV 3) X E) : X = (1, 3) ∧ E = 0 := by
  have hr : Rise [inV 1, inV 3, inV 3, inV 4] := by
    refine rise_adj _ (fun t ht => ?_)
    match t, ht with
    | 0, _ => show cmpV (inV 1) (inV 3) ≤ 0; rw [cmp_in]; decide
    | 1, _ => show cmpV (inV 3) (inV 3) ≤ 0; rw [cmp_in]; decide
    | 2, _ => show cmpV (inV 3) (inV 4) ≤ 0; rw [cmp_in]; decide
    | t + 3, ht => simp at ht; omega
  have hok : ([inV 1, inV 3, inV 3, inV 4].all VT.ok && (inV 3).ok) = true := by simp [in_ok]
  rcases h with ⟨h, _⟩ | ⟨_, ⟨h, _⟩ | ⟨_, rfl, rfl⟩⟩
  · rw [hok] at h; cases h
  · exact absurd hr h
  · refine ⟨?_, rfl⟩
    unfold befN uptN
    simp only [List.countP_cons, List.countP_nil, cmp_in]
    decide
theorem place_wake2 {X : Int × Int} {E : Int} (h : PlP [inV 2, inV 1] (inV 1) X E) : X = (0, 0) ∧ E = 2 := by
  have hr : ¬ Rise [inV 2, inV 1] := fun h => by
    have := rise_at h 0 (by simp)
    have h2 : cmpV (inV 2) (inV 1) ≤ 0 := this
    rw [cmp_in] at h2
    revert h2
    decide
  have hok : ([inV 2, inV 1].all VT.ok && (inV 1).ok) = true := by simp [in_ok]
  rcases h with ⟨h, _⟩ | ⟨_, ⟨_, rfl, rfl⟩ | ⟨h, _⟩⟩
  · rw [hok] at h; cases h
  · exact ⟨rfl, rfl⟩
  · exact absurd h hr
theorem front_wake {A : Option Addr} {c : Nat} {X : VT} {E : Int} (h : FrP (lsV A 3 c [inV 1, inV 2, inV 3]) 2 X E) : X = lsV A 2 2 [inV 1, inV 2] ∧ E = 0 := by
  have hok : (lsV A 3 c [inV 1, inV 2, inV 3]).ok = true := ints_ok A 3 c [1, 2, 3] (by decide)
  rcases h with ⟨h, _⟩ | ⟨_, ⟨h, _⟩ | ⟨_, rfl, rfl⟩⟩
  · rw [hok] at h; cases h
  · exact absurd h (by decide)
  · refine ⟨?_, rfl⟩
    show (if (5 : Int) = 5 ∧ 2 < 3 then VT.mk 5 0 ⟨#[]⟩ A 2 2 none 0 0 [] ([inV 1, inV 2, inV 3].take 2) else lsV A 3 c [inV 1, inV 2, inV 3]) = _
    rw [if_pos ⟨rfl, by decide⟩]
    rfl
theorem sort_wake {A : Option Addr} {c : Nat} {L : List VT} (hp : L.Perm [lsV A 1 c [inV 2], inV 7, scV 1 0 ⟨#[]⟩]) (h : Rise L) : L = [scV 1 0 ⟨#[]⟩, inV 7, lsV A 1 c [inV 2]] := by
  refine rise_one ?_ h (hp.trans ?_)
  · have k1 : cmpV (scV 1 0 ⟨#[]⟩) (inV 7) = -1 := by unfold cmpV; rw [cmpF, show cmpQ (rankV (scV 1 0 ⟨#[]⟩)) (rankV (inV 7)) = -1 from rfl]; rfl
    have k2 : cmpV (scV 1 0 ⟨#[]⟩) (lsV A 1 c [inV 2]) = -1 := by unfold cmpV; rw [cmpF, show cmpQ (rankV (scV 1 0 ⟨#[]⟩)) (rankV (lsV A 1 c [inV 2])) = -1 from rfl]; rfl
    have k3 : cmpV (inV 7) (lsV A 1 c [inV 2]) = -1 := by unfold cmpV; rw [cmpF, show cmpQ (rankV (inV 7)) (rankV (lsV A 1 c [inV 2])) = -1 from rfl]; rfl
    simp [k1, k2, k3]
  · exact (List.Perm.swap _ _ _).trans (((List.Perm.swap _ _ _).cons _).trans ((List.Perm.swap _ _ _))) |>.trans (.refl _)
end Go.Proofs.YtndolgbbochpjaaDoor
/-
  Layer 7: the law's own wakes.
-/
namespace Go.Proofs.YtndolgbbochpjaaDoor
open Go.RowKit
set_option linter.unusedVariables false

section
variable {P : Program} {w : World} {o : Oper} {a : Act} {K : Act → World → Prop} {Q : Exit → Act → World → Prop}
theorem fillV1 (v0 v1 v2 v3 v4 : Value) (h : (Value.agg #[v0, v1, v2, v3, v4]).cells = #[v0, v1, v2, v3, v4]) : Instr.fill (fun q => some (q * 5, 5)) ((Array.range (1 * 5)).map ((scV 0 0 ⟨#[]⟩).agg.cells[· % (scV 0 0 ⟨#[]⟩).agg.cells.size]!)) [(0, .agg #[v0, v1, v2, v3, v4])] = some #[v0, v1, v2, v3, v4] := by
  have e : Array.range (1 * 5) = #[0, 1, 2, 3, 4] := by first | rfl | decide
  rw [e]
  simp [Instr.fill, h]
theorem fillV3 (v0 v1 v2 v3 v4 x0 x1 x2 x3 x4 y0 y1 y2 y3 y4 : Value) (h : (Value.agg #[v0, v1, v2, v3, v4]).cells = #[v0, v1, v2, v3, v4]) (hx : (Value.agg #[x0, x1, x2, x3, x4]).cells = #[x0, x1, x2, x3, x4]) (hy : (Value.agg #[y0, y1, y2, y3, y4]).cells = #[y0, y1, y2, y3, y4]) :
    Instr.fill (fun q => some (q * 5, 5)) ((Array.range (3 * 5)).map ((scV 0 0 ⟨#[]⟩).agg.cells[· % (scV 0 0 ⟨#[]⟩).agg.cells.size]!)) [(0, .agg #[v0, v1, v2, v3, v4]), (1, .agg #[x0, x1, x2, x3, x4]), (2, .agg #[y0, y1, y2, y3, y4])] = some #[v0, v1, v2, v3, v4, x0, x1, x2, x3, x4, y0, y1, y2, y3, y4] := by
  have e : Array.range (3 * 5) = #[0, 1, 2, 3, 4, 5, 6, 7, 8, 9, 10, 11, 12, 13, 14] := by first | rfl | decide
  rw [e]
  simp [Instr.fill, h, hx, hy]
/-- '[]T{..}'. -/
theorem step_rowN (t e : TypeId) (k : Nat) (xs : Array (Nat × Operand)) (ho : o.op = .buildSlice t k xs) (size : Nat) (i : TypeInfo) (z : Value) (ht : P.underlying t = some (.slice e)) (hi : P.info? e = some i) (hz : i.zero = some z) (hsize : i.size = size)
    (cells : Array Value) (hf : Instr.fill (fun q => some (q * size, size)) ((Array.range (k * size)).map (z.cells[· % z.cells.size]!)) (xs.toList.map fun p => (p.1, a.eval p.2)) = some cells) (hcs : cells.toList.length = k * size) (h0 : ¬ k * size = 0) (h24 : ¬ k * size > 2 ^ 24)
    (h : ∀ g w', w.heap.size ≤ g → Shows w' (g + 1) size (some ⟨g, 0, none⟩) k cells.toList → g + 1 ≤ w'.heap.size → Below w.heap.size w w' → K (a.put o.dst (.slice (some ⟨g, 0, none⟩) k k)) w') : o.wp P a w K Q := by
  refine wp_buildSlice t e k xs ho cells i z ht hi hz (by rw [hsize]; exact h24) (by rw [hsize]; exact h0) (by rw [hsize]; simpa using hf) ?_
  exact h w.heap.size (w.alloc (.cells cells e)) (Nat.le_refl _) (shows_new w cells e w.heap.size k size rfl hcs) (by rw [World.size_alloc]; exact Nat.le_refl _) ((Below.refl _ _).alloc (Nat.le_refl _) _)
end
theorem sortw_any (A : Option Addr) (g c B : Nat) (w : World) (h : Shows w B 5 (some ⟨g, 0, none⟩) 3 ([lsV A 1 c [inV 2], inV 7, scV 1 0 ⟨#[]⟩].flatMap VT.cells)) (hA : Shows w B 5 A 1 ([inV 2].flatMap VT.cells)) (hc : 1 ≤ c) (hcm : c ≤ 100) (hB : B ≤ w.heap.size) (htab : UTab w) (hst : STab w) (hr : RTab w) :
    Calls Tryd.prog 15 #[.slice (some ⟨g, 0, none⟩) 3 3] w fun e w' => ∃ A' c', e = .returned (.tuple #[.slice A' 3 c', .int .i64 0]) ∧ Hid (Shows w' w'.heap.size 5 A' 3 ([scV 1 0 ⟨#[]⟩, inV 7, lsV A 1 c [inV 2]].flatMap VT.cells)) ∧ Below w.heap.size w w' := by
  have hAn : A = none → c = 0 := fun e => by
    subst e
    obtain ⟨b, off, x, e, -⟩ := kids_at hA (by decide : 0 < 1)
    cases e
  have hL : ∀ x ∈ [lsV A 1 c [inV 2], inV 7, scV 1 0 ⟨#[]⟩], Lie w B x := by
    intro x hx
    simp only [List.mem_cons, List.not_mem_nil, or_false] at hx
    rcases hx with rfl | rfl | rfl
    · exact lie_lsS hA (fun x hx => by rw [List.mem_singleton] at hx; subst hx; exact lie_in _ _ _ (by decide)) hAn hc (Nat.le_trans hcm (by decide))
    · exact lie_in _ _ _ (by decide)
    · exact lie_sc _ _ _ _ _ (by decide) (by decide) (by decide)
  refine (sortT_any _ 3 3 B _ w h hL hB (by decide) (fun h => by cases h) (Nat.le_refl _) htab hst hr).mono ?_
  have hok : [lsV A 1 c [inV 2], inV 7, scV 1 0 ⟨#[]⟩].all VT.ok = true := by
    have := ints_ok A 1 c [2] (by decide)
    simp only [List.map_cons, List.map_nil] at this
    simp [this, in_ok, nil_ok]
  rintro e w' ⟨⟨h1, _⟩ | ⟨_, A', c', L2, rfl, HS, HP⟩, hb⟩
  · rw [hok] at h1; cases h1
  · obtain rfl := sort_wake HP.out.1 HP.out.2
    exact ⟨A', c', rfl, HS, hb⟩
theorem frontw_any (A : Option Addr) (c B : Nat) (w : World) (h : Shows w B 5 A 3 ([inV 1, inV 2, inV 3].flatMap VT.cells)) (hA : A = none → c = 0) (hc : 3 ≤ c) (hcm : c ≤ 100) (hB : B ≤ w.heap.size) (htab : UTab w) (hst : STab w) :
    Calls Tryd.prog 21 #[.agg #[.int .i64 5, .int .i64 0, .string ⟨#[]⟩, .slice A 3 c, .slice none 0 0], .int .i64 2] w fun e w' => e = .returned (.tuple #[.agg #[.int .i64 5, .int .i64 0, .string ⟨#[]⟩, .slice A 2 2, .slice none 0 0], .int .i64 0]) ∧ Below w.heap.size w w' := by
  refine (frontT_any (lsV A 3 c [inV 1, inV 2, inV 3]) 2 B w (lie_lsS h (fun x hx => by simp only [List.mem_cons, List.not_mem_nil, or_false] at hx; rcases hx with rfl | rfl | rfl <;> exact lie_in _ _ _ (by decide)) hA hc (Nat.le_trans hcm (by decide))) hB htab hst).mono ?_
  rintro e w' ⟨X, E, rfl, hP, hb⟩
  obtain ⟨rfl, rfl⟩ := front_wake hP.out
  exact ⟨rfl, hb⟩
theorem placew1_any (A : Option Addr) (c B : Nat) (w : World) (h : Shows w B 5 A 4 ([inV 1, inV 3, inV 3, inV 4].flatMap VT.cells)) (hB : B ≤ w.heap.size) (htab : UTab w) (hst : STab w) (hr : RTab w) :
    Calls Tryd.prog 16 #[.slice A 4 c, .agg #[.int .i64 3, .int .i64 3, .string ⟨#[]⟩, .slice none 0 0, .slice none 0 0]] w fun e w' => e = .returned (.tuple #[.int .i64 1, .int .i64 3, .int .i64 0]) ∧ Below w.heap.size w w' := by
  refine (placeT_any A 4 c B _ (inV 3) w h (fun x hx => by simp only [List.mem_cons, List.not_mem_nil, or_false] at hx; rcases hx with rfl | rfl | rfl | rfl <;> exact lie_in _ _ _ (by decide)) (lie_in _ _ _ (by decide)) hB (by decide) htab hst hr).mono ?_
  rintro e w' ⟨X, E, rfl, hP, hb⟩
  obtain ⟨rfl, rfl⟩ := place_wake1 hP.out
  exact ⟨rfl, hb⟩
theorem placew2_any (A : Option Addr) (c B : Nat) (w : World) (h : Shows w B 5 A 2 ([inV 2, inV 1].flatMap VT.cells)) (hB : B ≤ w.heap.size) (htab : UTab w) (hst : STab w) (hr : RTab w) :
    Calls Tryd.prog 16 #[.slice A 2 c, .agg #[.int .i64 3, .int .i64 1, .string ⟨#[]⟩, .slice none 0 0, .slice none 0 0]] w fun e w' => e = .returned (.tuple #[.int .i64 0, .int .i64 0, .int .i64 2]) ∧ Below w.heap.size w w' := by
  refine (placeT_any A 2 c B _ (inV 1) w h (fun x hx => by simp only [List.mem_cons, List.not_mem_nil, or_false] at hx; rcases hx with rfl | rfl <;> exact lie_in _ _ _ (by decide)) (lie_in _ _ _ (by decide)) hB (by decide) htab hst hr).mono ?_
  rintro e w' ⟨X, E, rfl, hP, hb⟩
  obtain ⟨rfl, rfl⟩ := place_wake2 hP.out
  exact ⟨rfl, hb⟩
theorem cmpw2_any (w : World) (htab : UTab w) (hst : STab w) (hr : RTab w) :
    Calls Tryd.prog 11 #[.agg #[.int .i64 0, .int .i64 0, .string ⟨#[]⟩, .slice none 0 0, .slice none 0 0], .agg #[.int .i64 3, .int .i64 1, .string ⟨#[]⟩, .slice none 0 0, .slice none 0 0]] w fun e w' => e = .returned (.tuple #[.int .i64 0, .int .i64 140]) ∧ Below w.heap.size w w' := by
  have h := compareT_any (scV 0 0 ⟨#[]⟩) (inV 1) w.heap.size w (lie_sc _ _ _ _ _ (by decide) (by decide) (by decide)) (lie_in _ _ _ (by decide)) (Nat.le_refl _) htab hst hr
  rw [cmp_wake2] at h
  exact h
theorem inC (n : Int) : (inV n).cells = [.int .i64 3, .int .i64 n, .string ⟨#[]⟩, .slice none 0 0, .slice none 0 0] := rfl
set_option maxRecDepth 20000 in
set_option maxHeartbeats 4000000 in
theorem cwakes_any (w : World) (htab : UTab w) (hst : STab w) (hr : RTab w) : Calls Tryd.prog 10 #[] w fun e w' => e = .returned (.bool true) ∧ Below w.heap.size w w' := by
  obtain ⟨iV, hiV, hzV, hsV, hbV⟩ := val_info
  have HTx := Lib.hid (fun W (h : Below w.heap.size w W) => (⟨htab.below h htab.lt, hst.below h hst.lt, hr.below h hr.lt⟩ : UTab W ∧ STab W ∧ RTab W))
  clear htab hst hr
  have hb1 := bel_alloc (Below.refl w.heap.size w) (.cells #[.int .i64 1, .int .i64 0, .string ⟨#[]⟩, .slice none 0 0, .slice none 0 0] 25)
  have HV := Lib.hid (VFive.new w (.int .i64 1) (.int .i64 0) (.string ⟨#[]⟩) (.slice none 0 0) (.slice none 0 0) 25 w.heap.size rfl)
  go_enter Tryd.func10, Tryd.ntmps10
  go_upto_region 2 with fail
  generalize (w.alloc (.cells #[.int .i64 1, .int .i64 0, .string ⟨#[]⟩, .slice none 0 0, .slice none 0 0] 25)) = w1 at *
  go_wp2_with fail
  refine (in_any 1 _).mono ?_
  rintro e w2 ⟨rfl, hb2⟩
  have hk := hb2
  have hb2 := bel_next hb1 hb2
  go_wp2_with fail
  refine (in_any 2 _).mono ?_
  rintro e w3 ⟨rfl, hb3⟩
  have hk := bel_next hk hb3
  have hb3 := bel_next hb2 hb3
  have S3 := Lib.hid (shows_new w3 #[.int .i64 3, .int .i64 1, .string ⟨#[]⟩, .slice none 0 0, .slice none 0 0, .int .i64 3, .int .i64 2, .string ⟨#[]⟩, .slice none 0 0, .slice none 0 0] 25 w3.heap.size 2 5 rfl rfl)
  have hb3a := bel_alloc hb3 (.cells #[.int .i64 3, .int .i64 1, .string ⟨#[]⟩, .slice none 0 0, .slice none 0 0, .int .i64 3, .int .i64 2, .string ⟨#[]⟩, .slice none 0 0, .slice none 0 0] 25)
  go_wp2_with fail
  refine (list1_any _ _ _ _).mono ?_
  rintro e w4 ⟨rfl, hb4⟩
  have hk := bel_next (bel_alloc hk _) hb4
  have S4 := Lib.hid ((S3.out.below (hb4.mono (by simp))).more (Nat.le_trans (by simp) hb4.size))
  have hb4 := bel_next hb3a hb4
  clear S3 hb3a
  go_wp2_with fail
  refine (in_any 1 _).mono ?_
  rintro e w5 ⟨rfl, hb5⟩
  have hk := bel_next hk hb5
  have S5 := Lib.hid ((S4.out.below hb5).more hb5.size)
  have hb5 := bel_next hb4 hb5
  clear S4
  have T5 := Lib.hid (shows_new w5 #[.int .i64 3, .int .i64 1, .string ⟨#[]⟩, .slice none 0 0, .slice none 0 0] 25 w5.heap.size 1 5 rfl rfl)
  have S5a := Lib.hid ((S5.out.alloc (Nat.le_refl _) (.cells #[.int .i64 3, .int .i64 1, .string ⟨#[]⟩, .slice none 0 0, .slice none 0 0] 25)).more (Nat.le_succ _))
  have hb5a := bel_alloc hb5 (.cells #[.int .i64 3, .int .i64 1, .string ⟨#[]⟩, .slice none 0 0, .slice none 0 0] 25)
  go_wp2_with fail
  refine (list1_any _ _ _ _).mono ?_
  rintro e w6 ⟨rfl, hb6⟩
  have hk := bel_next (bel_alloc hk _) hb6
  have T6 := (T5.out.below (hb6.mono (by simp))).more (Nat.le_trans (by simp) hb6.size)
  have S6 := (S5a.out.below (hb6.mono (by simp))).more (Nat.le_trans (by simp) hb6.size)
  have hb6 := bel_next hb5a hb6
  have hc := compareT_any (lsV (some ⟨w3.heap.size, 0, none⟩) 2 2 [inV 1, inV 2]) (lsV (some ⟨w5.heap.size, 0, none⟩) 1 1 [inV 1]) w6.heap.size w6 (lie_lsS S6 (fun x hx => by simp at hx; rcases hx with rfl | rfl <;> exact lie_in _ _ _ (by decide)) (fun h => by cases h) (Nat.le_refl _) (by decide)) (lie_lsS T6 (fun x hx => by simp at hx; subst hx; exact lie_in _ _ _ (by decide)) (fun h => by cases h) (Nat.le_refl _) (by decide)) (Nat.le_refl _) (HTx.out _ hb6).1 (HTx.out _ hb6).2.1 (HTx.out _ hb6).2.2
  rw [cmp_wake1] at hc
  simp only [VT.agg] at hc
  clear T5 S5 S5a T6 S6 hb5a hb2 hb3 hb4 hb5
  go_wp2_with fail
  refine hc.mono ?_
  rintro e w7 ⟨rfl, hb7⟩
  have hk := bel_next hk hb7
  have hb7 := bel_next hb6 hb7
  clear hc hb6
  go_upto_region 3 with fail
  have HV7 := Lib.hid (HV.out.later hk)
  have v0 : ∀ W, Below w7.heap.size w7 W → W.cell? ⟨w.heap.size, 0, none⟩ = some (.int .i64 1) := fun W h => (HV7.out.later h).1.1
  have v1 : ∀ W, Below w7.heap.size w7 W → W.cell? ⟨w.heap.size, 1, none⟩ = some (.int .i64 0) := fun W h => (HV7.out.later h).1.2.1
  have v2 : ∀ W, Below w7.heap.size w7 W → W.cell? ⟨w.heap.size, 2, none⟩ = some (.string ⟨#[]⟩) := fun W h => (HV7.out.later h).1.2.2.1
  have v3 : ∀ W, Below w7.heap.size w7 W → W.cell? ⟨w.heap.size, 3, none⟩ = some (.slice none 0 0) := fun W h => (HV7.out.later h).1.2.2.2.1
  have v4 : ∀ W, Below w7.heap.size w7 W → W.cell? ⟨w.heap.size, 4, none⟩ = some (.slice none 0 0) := fun W h => (HV7.out.later h).1.2.2.2.2
  have HT7 := Lib.hid (fun W (h : Below w7.heap.size w7 W) => HTx.out W (bel_next hb7 h))
  refine wp_region_held_drew (S := fun W => Below w7.heap.size w7 W) (by kernel_rfl) (below_drewN (Below.refl _ _) 1) (fun hHeld => ?_)
  refine rg_in 4 rfl (by kernel_rfl) (by kernel_rfl) (by kernel_rfl) (by rfl) (v := ?_) (fun _ _ _ h => h) hHeld (fun w hSw => ?_) ?_
  rotate_left
  · (try dsimp only at hSw); go_simp <;> (with_reducible rfl)
  (try simp only [Act.put, List.setIfInBounds_toArray, List.set_cons_zero, List.set_cons_succ])
  refine rg_do 0 rfl (by kernel_rfl) (by rfl) (fun K hK => ?_)
  go_simp
  (go_at_call 30; (with_reducible refine (in_any 2 _).mono ?_); (rintro e w100 ⟨rfl, hb0⟩))
  refine hK.out _ _ (S_call hb0 hHeld rfl) (fun hHeld => ?_)
  clear hK K
  (try simp only [Act.put, List.setIfInBounds_toArray, List.set_cons_zero, List.set_cons_succ])
  refine rg_do 1 rfl (by kernel_rfl) (by rfl) (fun K hK => ?_)
  refine step_rowN 22 25 1 _ rfl 5 iV _ Tryd.underlying22 hiV hzV hsV #[.int .i64 3, .int .i64 2, .string ⟨#[]⟩, .slice none 0 0, .slice none 0 0] (fillV1 _ _ _ _ _ rfl) rfl (by decide) (by decide) ?_
  intro g1 w101 hge1 sh1 hl1 hb1
  refine hK.out _ _ (S_call hb1 hHeld rfl) (fun hHeld => ?_)
  clear hK K
  (try simp only [Act.put, List.setIfInBounds_toArray, List.set_cons_zero, List.set_cons_succ])
  refine rg_do 2 rfl (by kernel_rfl) (by rfl) (fun K hK => ?_)
  go_simp
  (go_at_call 27; (with_reducible refine (list1_any _ _ _ _).mono ?_); (rintro e w102 ⟨rfl, hb2⟩))
  refine hK.out _ _ (S_call hb2 hHeld rfl) (fun hHeld => ?_)
  clear hK K
  (try simp only [Act.put, List.setIfInBounds_toArray, List.set_cons_zero, List.set_cons_succ])
  refine rg_do 3 rfl (by kernel_rfl) (by rfl) (fun K hK => ?_)
  go_simp
  (go_at_call 30; (with_reducible refine (in_any 7 _).mono ?_); (rintro e w103 ⟨rfl, hb3⟩))
  refine hK.out _ _ (S_call hb3 hHeld rfl) (fun hHeld => ?_)
  clear hK K
  (try simp only [Act.put, List.setIfInBounds_toArray, List.set_cons_zero, List.set_cons_succ])
  refine rg_do 5 rfl (by kernel_rfl) (by rfl) (fun K hK => ?_)
  refine step_rowN 22 25 3 _ rfl 5 iV _ Tryd.underlying22 hiV hzV hsV #[.int .i64 5, .int .i64 0, .string ⟨#[]⟩, .slice (some ⟨g1, 0, none⟩) 1 1, .slice none 0 0, .int .i64 3, .int .i64 7, .string ⟨#[]⟩, .slice none 0 0, .slice none 0 0, .int .i64 1, .int .i64 0, .string ⟨#[]⟩, .slice none 0 0, .slice none 0 0] (fillV3 _ _ _ _ _ _ _ _ _ _ _ _ _ _ _ rfl rfl rfl) rfl (by decide) (by decide) ?_
  intro g5 w105 hge5 sh5 hl5 hb5
  refine hK.out _ _ (S_call hb5 hHeld rfl) (fun hHeld => ?_)
  clear hK K
  (try simp only [Act.put, List.setIfInBounds_toArray, List.set_cons_zero, List.set_cons_succ])
  refine rg_do 6 rfl (by kernel_rfl) (by rfl) (fun K hK => ?_)
  have hso := sortw_any (some ⟨g1, 0, none⟩) g5 1 w105.heap.size w105 (sh5.more hl5) ((sh1.below ((bel_next (bel_next hb2 hb3) hb5).mono hl1)).more (Nat.le_trans hl1 (bel_next (bel_next hb2 hb3) hb5).size)) (by decide) (by decide) (Nat.le_refl _) (HT7.out _ hHeld).1 (HT7.out _ hHeld).2.1 (HT7.out _ hHeld).2.2
  go_simp
  (go_at_call 15; (with_reducible refine hso.mono ?_); (rintro e w106 ⟨A6, c6, rfl, HS6, hb6⟩))
  refine hK.out _ _ (S_call hb6 hHeld rfl) (fun hHeld => ?_)
  clear hK K
  (try simp only [Act.put, List.setIfInBounds_toArray, List.set_cons_zero, List.set_cons_succ])
  refine rg_in 7 rfl (by kernel_rfl) (by kernel_rfl) (by kernel_rfl) (by rfl) (v := ?_) (fun _ _ _ h => h) hHeld (fun w hSw => ?_) ?_
  rotate_left
  · (try dsimp only at hSw); go_simp <;> (with_reducible rfl)
  (try simp only [Act.put, List.setIfInBounds_toArray, List.set_cons_zero, List.set_cons_succ])
  refine rg_in 8 rfl (by kernel_rfl) (by kernel_rfl) (by kernel_rfl) (by rfl) (v := ?_) (fun _ _ _ h => h) hHeld (fun w hSw => ?_) ?_
  rotate_left
  · (try dsimp only at hSw); go_simp <;> (with_reducible rfl)
  (try simp only [Act.put, List.setIfInBounds_toArray, List.set_cons_zero, List.set_cons_succ])
  refine rg_in 9 rfl (by kernel_rfl) (by kernel_rfl) (by kernel_rfl) (by rfl) (v := ?_) (fun _ _ _ h => h) hHeld (fun w hSw => ?_) ?_
  rotate_left
  · (try dsimp only at hSw); go_simp <;> (with_reducible rfl)
  (try simp only [Act.put, List.setIfInBounds_toArray, List.set_cons_zero, List.set_cons_succ])
  refine rg_in 10 rfl (by kernel_rfl) (by kernel_rfl) (by kernel_rfl) (by rfl) (v := ?_) (fun _ _ _ h => h) hHeld (fun w hSw => ?_) ?_
  rotate_left
  · (try dsimp only at hSw); go_simp <;> (with_reducible rfl)
  (try simp only [Act.put, List.setIfInBounds_toArray, List.set_cons_zero, List.set_cons_succ])
  refine rg_in 11 rfl (by kernel_rfl) (by kernel_rfl) (by kernel_rfl) (by rfl) (v := ?_) (fun _ _ _ h => h) hHeld (fun w hSw => ?_) ?_
  rotate_left
  · (try dsimp only at hSw); go_simp <;> (with_reducible rfl)
  (try simp only [Act.put, List.setIfInBounds_toArray, List.set_cons_zero, List.set_cons_succ])
  refine wpAnyH_done (by kernel_rfl) ?_ _
  have hbA := bel_next hb7 hHeld
  clear v0 v1 v2 v3 v4 HV7 HV HT7 hk hb7 sh1 sh5 hso hge1 hge5 hl1 hl5 hb0 hb1 hb2 hb3 hb5 hb6
  go_wp2_with fail
  refine (in_any 1 _).mono ?_
  rintro e x1 ⟨rfl, hn⟩
  have HS6 := Lib.hid ((HS6.out.below hn).more hn.size)
  have hbA := bel_next hbA hn
  clear hn
  go_wp2_with fail
  refine (in_any 2 _).mono ?_
  rintro e x2 ⟨rfl, hn⟩
  have HS6 := Lib.hid ((HS6.out.below hn).more hn.size)
  have hbA := bel_next hbA hn
  clear hn
  go_wp2_with fail
  refine (in_any 3 _).mono ?_
  rintro e x3 ⟨rfl, hn⟩
  have HS6 := Lib.hid ((HS6.out.below hn).more hn.size)
  have hbA := bel_next hbA hn
  clear hn
  have R4 := shows_new x3 #[.int .i64 3, .int .i64 1, .string ⟨#[]⟩, .slice none 0 0, .slice none 0 0, .int .i64 3, .int .i64 2, .string ⟨#[]⟩, .slice none 0 0, .slice none 0 0, .int .i64 3, .int .i64 3, .string ⟨#[]⟩, .slice none 0 0, .slice none 0 0] 25 x3.heap.size 3 5 rfl rfl
  have hn0 := bel_alloc (Below.refl x3.heap.size x3) (.cells #[.int .i64 3, .int .i64 1, .string ⟨#[]⟩, .slice none 0 0, .slice none 0 0, .int .i64 3, .int .i64 2, .string ⟨#[]⟩, .slice none 0 0, .slice none 0 0, .int .i64 3, .int .i64 3, .string ⟨#[]⟩, .slice none 0 0, .slice none 0 0] 25)
  go_wp2_with fail
  refine (list1_any _ _ _ _).mono ?_
  rintro e x4 ⟨rfl, hn⟩
  have R4 := (R4.below (hn.mono (by simp))).more (Nat.le_trans (by simp) hn.size)
  have hn := bel_next hn0 hn
  have HS6 := Lib.hid ((HS6.out.below hn).more hn.size)
  have hbA := bel_next hbA hn
  clear hn hn0
  have hf := frontw_any (some ⟨x3.heap.size, 0, none⟩) 3 x4.heap.size x4 R4 (fun h => by cases h) (by decide) (by decide) (Nat.le_refl _) (HTx.out _ hbA).1 (HTx.out _ hbA).2.1
  clear R4
  go_wp2_with fail
  refine hf.mono ?_
  rintro e x5 ⟨rfl, hn⟩
  have HS6 := Lib.hid ((HS6.out.below hn).more hn.size)
  have hbA := bel_next hbA hn
  clear hn hf
  have HF := Lib.hid (VFive.new x5 (.int .i64 5) (.int .i64 0) (.string ⟨#[]⟩) (.slice (some ⟨x3.heap.size, 0, none⟩) 2 2) (.slice none 0 0) 25 x5.heap.size rfl)
  have hn := bel_alloc (Below.refl x5.heap.size x5) (.cells #[.int .i64 5, .int .i64 0, .string ⟨#[]⟩, .slice (some ⟨x3.heap.size, 0, none⟩) 2 2, .slice none 0 0] 25)
  have HS6 := Lib.hid ((HS6.out.below hn).more hn.size)
  have hbA := bel_next hbA hn
  clear hn
  go_upto_region 5 with fail
  generalize (x5.alloc (.cells #[.int .i64 5, .int .i64 0, .string ⟨#[]⟩, .slice (some ⟨x3.heap.size, 0, none⟩) 2 2, .slice none 0 0] 25)) = y0 at *
  go_wp2_with fail
  refine (in_any 1 _).mono ?_
  rintro e x6 ⟨rfl, hn⟩
  have HS6 := Lib.hid ((HS6.out.below hn).more hn.size)
  have HF := Lib.hid (HF.out.later hn)
  have hbA := bel_next hbA hn
  clear hn
  go_wp2_with fail
  refine (in_any 3 _).mono ?_
  rintro e x7 ⟨rfl, hn⟩
  have HS6 := Lib.hid ((HS6.out.below hn).more hn.size)
  have HF := Lib.hid (HF.out.later hn)
  have hbA := bel_next hbA hn
  clear hn
  go_wp2_with fail
  refine (in_any 3 _).mono ?_
  rintro e x8 ⟨rfl, hn⟩
  have HS6 := Lib.hid ((HS6.out.below hn).more hn.size)
  have HF := Lib.hid (HF.out.later hn)
  have hbA := bel_next hbA hn
  clear hn
  go_wp2_with fail
  refine (in_any 4 _).mono ?_
  rintro e x9 ⟨rfl, hn⟩
  have HS6 := Lib.hid ((HS6.out.below hn).more hn.size)
  have HF := Lib.hid (HF.out.later hn)
  have hbA := bel_next hbA hn
  clear hn
  have R5 := shows_new x9 #[.int .i64 3, .int .i64 1, .string ⟨#[]⟩, .slice none 0 0, .slice none 0 0, .int .i64 3, .int .i64 3, .string ⟨#[]⟩, .slice none 0 0, .slice none 0 0, .int .i64 3, .int .i64 3, .string ⟨#[]⟩, .slice none 0 0, .slice none 0 0, .int .i64 3, .int .i64 4, .string ⟨#[]⟩, .slice none 0 0, .slice none 0 0] 25 x9.heap.size 4 5 rfl rfl
  have hn0 := bel_alloc (Below.refl x9.heap.size x9) (.cells #[.int .i64 3, .int .i64 1, .string ⟨#[]⟩, .slice none 0 0, .slice none 0 0, .int .i64 3, .int .i64 3, .string ⟨#[]⟩, .slice none 0 0, .slice none 0 0, .int .i64 3, .int .i64 3, .string ⟨#[]⟩, .slice none 0 0, .slice none 0 0, .int .i64 3, .int .i64 4, .string ⟨#[]⟩, .slice none 0 0, .slice none 0 0] 25)
  go_wp2_with fail
  refine (in_any 3 _).mono ?_
  rintro e x10 ⟨rfl, hn⟩
  have R5 := (R5.below (hn.mono (by simp))).more (Nat.le_trans (by simp) hn.size)
  have hn := bel_next hn0 hn
  have HS6 := Lib.hid ((HS6.out.below hn).more hn.size)
  have HF := Lib.hid (HF.out.later hn)
  have hbA := bel_next hbA hn
  clear hn hn0
  have hp := placew1_any (some ⟨x9.heap.size, 0, none⟩) 4 x10.heap.size x10 R5 (Nat.le_refl _) (HTx.out _ hbA).1 (HTx.out _ hbA).2.1 (HTx.out _ hbA).2.2
  clear R5
  go_wp2_with fail
  refine hp.mono ?_
  rintro e x11 ⟨rfl, hn⟩
  have HS6 := Lib.hid ((HS6.out.below hn).more hn.size)
  have HF := Lib.hid (HF.out.later hn)
  have hbA := bel_next hbA hn
  clear hn hp
  go_wp2_with fail
  refine (in_any 1 _).mono ?_
  rintro e x12 ⟨rfl, hn⟩
  have HS6 := Lib.hid ((HS6.out.below hn).more hn.size)
  have HF := Lib.hid (HF.out.later hn)
  have hbA := bel_next hbA hn
  clear hn
  have hc := cmpw2_any x12 (HTx.out _ hbA).1 (HTx.out _ hbA).2.1 (HTx.out _ hbA).2.2
  go_wp2_with fail
  refine hc.mono ?_
  rintro e x13 ⟨rfl, hn⟩
  have HS6 := Lib.hid ((HS6.out.below hn).more hn.size)
  have HF := Lib.hid (HF.out.later hn)
  have hbA := bel_next hbA hn
  clear hn hc
  go_wp2_with fail
  refine (in_any 2 _).mono ?_
  rintro e x14 ⟨rfl, hn⟩
  have HS6 := Lib.hid ((HS6.out.below hn).more hn.size)
  have HF := Lib.hid (HF.out.later hn)
  have hbA := bel_next hbA hn
  clear hn
  go_wp2_with fail
  refine (in_any 1 _).mono ?_
  rintro e x15 ⟨rfl, hn⟩
  have HS6 := Lib.hid ((HS6.out.below hn).more hn.size)
  have HF := Lib.hid (HF.out.later hn)
  have hbA := bel_next hbA hn
  clear hn
  have R7 := shows_new x15 #[.int .i64 3, .int .i64 2, .string ⟨#[]⟩, .slice none 0 0, .slice none 0 0, .int .i64 3, .int .i64 1, .string ⟨#[]⟩, .slice none 0 0, .slice none 0 0] 25 x15.heap.size 2 5 rfl rfl
  have hn0 := bel_alloc (Below.refl x15.heap.size x15) (.cells #[.int .i64 3, .int .i64 2, .string ⟨#[]⟩, .slice none 0 0, .slice none 0 0, .int .i64 3, .int .i64 1, .string ⟨#[]⟩, .slice none 0 0, .slice none 0 0] 25)
  go_wp2_with fail
  refine (in_any 1 _).mono ?_
  rintro e x16 ⟨rfl, hn⟩
  have R7 := (R7.below (hn.mono (by simp))).more (Nat.le_trans (by simp) hn.size)
  have hn := bel_next hn0 hn
  have HS6 := Lib.hid ((HS6.out.below hn).more hn.size)
  have HF := Lib.hid (HF.out.later hn)
  have hbA := bel_next hbA hn
  clear hn hn0
  have hp := placew2_any (some ⟨x15.heap.size, 0, none⟩) 2 x16.heap.size x16 R7 (Nat.le_refl _) (HTx.out _ hbA).1 (HTx.out _ hbA).2.1 (HTx.out _ hbA).2.2
  clear R7
  go_wp2_with fail
  refine hp.mono ?_
  rintro e x17 ⟨rfl, hn⟩
  have HS6 := Lib.hid ((HS6.out.below hn).more hn.size)
  have HF := Lib.hid (HF.out.later hn)
  have hbA := bel_next hbA hn
  clear hn hp
  obtain ⟨b8, o8, rfl, _, hc8⟩ := HS6.out.2 (by decide)
  have n0 := hc8 0 (.int .i64 1) rfl
  have n1 := hc8 6 (.int .i64 7) rfl
  simp only [Nat.add_zero] at n0
  obtain ⟨⟨-, -, -, f3, -⟩, -⟩ := HF.out
  clear HS6 HF hc8
  go_wp2
  go_ret
  exact ⟨rfl, hbA⟩
end Go.Proofs.YtndolgbbochpjaaDoor
