/-
  Layer 2: what lies in memory between two rounds of Read's loop.
-/
import Derived.Test.YtgnialemiefeeaaDoorQuoE
import Derived.Test.YtgnialemiefeeaaDoorQuoS
import Derived.Test.YtgnialemiefeeaaDoorUtfM
import Derived.Test.YtgnialemiefeeaaDoorUtfN
import Derived.RangeFuncBox
import Derived.Lib.OwnKind
namespace Go.Proofs.YtgnialemiefeeaaDoor
open Go.RowKit Go.Shelf

/-- So far: the code points that have come, from p on, up to q. -/
structure Sofar (l : List UInt8) (p q : Nat) (cps : List Nat) : Prop where
  lo : p ≤ q
  hi : q ≤ l.length
  few : cps.length ≤ q - p
  rest : sgsL (l.drop p) = (cps ++ (sgsL (l.drop q)).1, (q - p) + (sgsL (l.drop q)).2)
theorem Sofar.start {l : List UInt8} {p : Nat} (h : p ≤ l.length) : Sofar l p p [] := ⟨Nat.le_refl _, h, Nat.zero_le _, by simp⟩
theorem Sofar.step {l : List UInt8} {p q : Nat} {cps : List Nat} (h : Sofar l p q cps) (hb : (begL (l.drop q)).2 ≠ 0) : Sofar l p (q + (begL (l.drop q)).2) (cps ++ [(begL (l.drop q)).1]) := by
  have hle := beg_le (l.drop q)
  rw [List.length_drop] at hle
  refine ⟨by have := h.lo; omega, by have := h.hi; omega, by have := h.few; have := h.lo; simp only [List.length_append, List.length_cons, List.length_nil]; omega, ?_⟩
  rw [h.rest, sgs_step hb, List.drop_drop]
  refine Prod.ext ?_ ?_
  · simp
  · have := h.lo
    simp only
    omega
theorem Sofar.done {l : List UInt8} {p q : Nat} {cps : List Nat} (h : Sofar l p q cps) (hb : (begL (l.drop q)).2 = 0) : sgsL (l.drop p) = (cps, q - p) := by
  rw [h.rest, sgs_zero hb]
  simp

theorem nats_back : ∀ l : List Nat, (nats l).map Int.toNat = l
  | [] => rfl
  | c :: l => by rw [show nats (c :: l) = (c : Int) :: nats l from rfl, List.map_cons, nats_back l, Int.toNat_natCast]
theorem textR_cps {cps : List Nat} (h : allCp cps) : textR (nats cps) = .tuple #[.string (ofL (textL cps)), .int .i64 0] := by
  unfold textR
  rw [if_pos, nats_back]
  rw [List.all_eq_true]
  intro x hx
  obtain ⟨c, hc, rfl⟩ := List.mem_map.1 hx
  exact h c hc
theorem sgs_cps (l : List UInt8) : allCp (sgsL l).1 := (sgs_is l.length l (Nat.le_refl _)).1
/-- The memory between two rounds: n blocks lay when Read began. -/
structure RJ (n : Nat) (A : Option Addr) (m c0 : Nat) (w : World) (lp : Obj) (q c : Nat) (cps : List Nat) (W : World) : Prop where
  b0 : Boxed W n 3 (.int .i64 (q : Nat))
  b1 : ∃ v, Boxed W (n + 1) 35 v ∧ W.ownsRow (n + 4) 3 1 v cps.length ((nats cps).map iv)
  b2 : Boxed W (n + 2) 22 (.slice A m c0)
  b3 : Boxed W (n + 3) 3 (.int .i64 (c : Nat))
  d : W.heap[n + 4]? = some (.deferred (some []))
  r : W.heap[n + 5]? = some lp
  bel : Below n w W
section
variable {n : Nat} {A : Option Addr} {m c0 : Nat} {w : World} {lp : Obj} {q c : Nat} {cps : List Nat} {W W' : World}
theorem lies {W W' : World} {k : Nat} {o : Obj} (h : W.heap[k]? = some o) (hb : Below W.heap.size W W') : W'.heap[k]? = some o := (hb.block k (Array.getElem?_eq_some_iff.1 h).1).trans h
theorem RJ.lt (h : RJ n A m c0 w lp q c cps W) : n + 5 < W.heap.size := (Array.getElem?_eq_some_iff.1 h.r).1
theorem RJ.later (h : RJ n A m c0 w lp q c cps W) (hb : Below W.heap.size W W') : RJ n A m c0 w lp q c cps W' := by
  obtain ⟨v, h1, h2⟩ := h.b1
  exact ⟨lies h.b0 hb, ⟨v, lies h1 hb, own_below h2 hb⟩, lies h.b2 hb, lies h.b3 hb, lies h.d hb, lies h.r hb, h.bel.trans (hb.mono (by have := h.lt; omega))⟩
theorem RJ.own (h : RJ n A m c0 w lp q c cps W) (c' : Nat) : RJ n A m c0 w lp q c' cps (W.setCell ⟨n + 3, 0, none⟩ (.int .i64 (c' : Nat))) := by
  obtain ⟨v, h1, h2⟩ := h.b1
  exact ⟨h.b0.other (by omega) _, ⟨v, h1.other (by omega) _, ownsRow_setCell_below h2 (by show n + 3 < n + 4; omega) _⟩, h.b2.other (by omega) _, h.b3.set _, (Below.heap_setCell _ _ _ _ (by show n + 4 ≠ n + 3; omega)).trans h.d, (Below.heap_setCell _ _ _ _ (by show n + 5 ≠ n + 3; omega)).trans h.r, h.bel.setCell (by show n ≤ n + 3; omega) _⟩
theorem RJ.turn (h : RJ n A m c0 w lp q c cps W) (hl : lp.isCells = false) (lp' : Obj) : RJ n A m c0 w lp' q c cps (W.putObj (n + 5) lp') := by
  obtain ⟨v, h1, h2⟩ := h.b1
  have hg := grownBy_putObj' W (n + 5) lp'
  exact ⟨h.b0.kept hg (by simp), ⟨v, h1.kept hg (by simp), ownsRow_putObj h2 _ h.r hl⟩, h.b2.kept hg (by simp), h.b3.kept hg (by simp), (World.putObj_heap_other (by omega)).trans h.d, World.putObj_heap_same h.lt, h.bel.grown hg (by have := h.lt; omega) (fun k e => by cases e; omega)⟩
theorem cell_of_heap {W : World} {k : Nat} {C : Array Value} {t : TypeId} {fz : Nat × Nat} (h : W.heap[k]? = some (.cells C t fz)) (j : Nat) (v : Value) (hj : C[j]? = some v) : W.cell? ⟨k, j, none⟩ = some v := by simp [World.cell?, h, hj]
/-- A row is no block that holds something else. -/
theorem no_row {W : World} {base : Nat} {e : TypeId} {v : Value} {k : Nat} {xs : List Value} (h : W.ownsRow base e 1 v k xs) {S : Nat} {o : Obj} (hS : W.heap[S]? = some o) (ho : ∀ c fz, o ≠ .cells c e fz) : some S ≠ v.ownBlock := fun e' => by
  obtain ⟨c', fz, h2⟩ := Lib.ownsRow_kind h S e'.symm
  rw [hS] at h2
  injection h2 with h2
  exact ho _ _ h2
theorem low_row {W : World} {base : Nat} {e : TypeId} {v : Value} {k : Nat} {xs : List Value} (h : W.ownsRow base e 1 v k xs) {S : Nat} (hS : S < base) : some S ≠ v.ownBlock := fun e' => by
  have := (h.lt S e'.symm).1
  omega
/-- One more code point has been taken. -/
theorem RJ.took {x S : Nat} {C : Array Value} {t : TypeId} {v v' : Value} {tmp : Obj} {w7 : World} (q' : Nat) (h : RJ n A m c0 w lp q c cps W) (hlp : lp.isCells = false) (hv : Boxed W (n + 1) 35 v) (hrow : W.ownsRow (n + 4) 3 1 v cps.length ((nats cps).map iv))
    (hS : W.heap[S]? = some (.cells C t (0, 0))) (ht : t ≠ 3) (hSn : n + 4 ≤ S) (hgrow : (W.alloc tmp).grownBy w7 v.ownBlock) (hown : w7.ownsRow (n + 4) 3 1 v' (cps.length + 1) ((nats cps).map iv ++ [.int .i64 (x : Nat)])) :
    Boxed w7 (n + 1) 35 v ∧ w7.heap[S]? = some (.cells C t (0, 0)) ∧ (w7.setCell ⟨n + 1, 0, none⟩ v').heap[S]? = some (.cells C t (0, 0)) ∧ Boxed (w7.setCell ⟨n + 1, 0, none⟩ v') n 3 (.int .i64 (q : Nat)) ∧
      RJ n A m c0 w lp q' c (cps ++ [x]) ((w7.setCell ⟨n + 1, 0, none⟩ v').setCell ⟨n, 0, none⟩ (.int .i64 (q' : Nat))) := by
  have hlt := h.lt
  have ha : ∀ {k : Nat} {o : Obj}, W.heap[k]? = some o → some k ≠ v.ownBlock → w7.heap[k]? = some o := fun {k o} hk hne =>
    (hgrow.block k (by have := (Array.getElem?_eq_some_iff.1 hk).1; simp; omega) hne).trans ((Below.heap_alloc W tmp k (Array.getElem?_eq_some_iff.1 hk).1).trans hk)
  have hlp' : ∀ c fz, lp ≠ .cells c 3 fz := fun c fz e => by rw [e] at hlp; cases hlp
  have g0 : Boxed w7 n 3 (.int .i64 (q : Nat)) := ha h.b0 (low_row hrow (by omega))
  have g1 : Boxed w7 (n + 1) 35 v := ha hv (low_row hrow (by omega))
  have g2 : Boxed w7 (n + 2) 22 (.slice A m c0) := ha h.b2 (low_row hrow (by omega))
  have g3 : Boxed w7 (n + 3) 3 (.int .i64 (c : Nat)) := ha h.b3 (low_row hrow (by omega))
  have gd := ha h.d (no_row hrow h.d (fun _ _ e => by cases e))
  have gr := ha h.r (no_row hrow h.r hlp')
  have gS := ha hS (no_row hrow hS (fun _ _ e => by injection e with _ e; exact ht e))
  have hb7 : Below n w w7 := (h.bel.alloc (by omega) tmp).grown hgrow (by simp; omega) (fun k e => by have := (hrow.lt k e).1; omega)
  have f : ∀ {k : Nat} {o : Obj} (a : Nat) (u : Value) (X : World), X.heap[k]? = some o → k ≠ a → (X.setCell ⟨a, 0, none⟩ u).heap[k]? = some o := fun {k o} a u X hX hne => (Below.heap_setCell X _ u k hne).trans hX
  refine ⟨g1, gS, f _ _ _ gS (by omega), g0.other (by omega) _, ⟨Boxed.set _ (g0.other (by omega) _), ⟨v', (g1.set v').other (by omega) _, ?_⟩, (g2.other (by omega) _).other (by omega) _, (g3.other (by omega) _).other (by omega) _, f _ _ _ (f _ _ _ gd (by omega)) (by omega), f _ _ _ (f _ _ _ gr (by omega)) (by omega), (hb7.setCell (by show n ≤ n + 1; omega) _).setCell (Nat.le_refl n) _⟩⟩
  rw [nats_snoc, List.length_append, List.map_append]
  exact ownsRow_setCell_below (ownsRow_setCell_below hown (by show n + 1 < n + 4; omega) _) (by show n < n + 4; omega) _
end
end Go.Proofs.YtgnialemiefeeaaDoor
