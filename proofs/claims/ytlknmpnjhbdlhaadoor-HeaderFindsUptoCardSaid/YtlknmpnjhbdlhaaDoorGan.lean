import Derived.Test.YtlknmpnjhbdlhaaDoorGam
import Derived.RangeFuncBox
import Derived.Lib.OwnKind
import Derived.Test.YtlknmpnjhbdlhaaDoorGah
import Derived.Test.YtlknmpnjhbdlhaaDoorGai
import Derived.Sort.CutIn
import Derived.WalkMore
import Derived.Deep.QuietTactic
import Derived.BigQuiet
import Derived.Test.YtlknmpnjhbdlhaaDoorGad
import Derived.Test.YtlknmpnjhbdlhaaDoorGak
import Derived.Test.YtlknmpnjhbdlhaaDoorGae
import Derived.Test.YtlknmpnjhbdlhaaDoorGaj
import Derived.Laws.Cover3
/-
  Layer 11: what lies in memory between two data bytes that are read.
-/
namespace Go.Proofs.YtlknmpnjhbdlhaaDoor
open Go.RowKit Go.Shelf
set_option linter.unusedVariables false

/-- Bytes stay where their block does. -/
theorem pc_keep {W W' : World} {p : PcT} (h : p.Ok W W.heap.size) (hs : W.heap.size ≤ W'.heap.size) (hk : ∀ b off, p.A = some ⟨b, off, none⟩ → 0 < p.n → b < W.heap.size → W'.heap[b]? = W.heap[b]?) : p.Ok W' W'.heap.size := by
  refine ⟨⟨h.here.1, fun hn => ?_⟩, h.nil, h.fits, h.most⟩
  obtain ⟨b, off, e, hb, hc⟩ := h.here.2 hn
  exact ⟨b, off, e, Nat.lt_of_lt_of_le hb hs, fun j u hj => (World.cell?_of_block (hk b off e hn hb)).trans (hc j u hj)⟩
/-- The bytes that are read lie apart from a row of one's own. -/
def Apt (p : PcT) (v : Value) : Prop := ∀ b off, p.A = some ⟨b, off, none⟩ → 0 < p.n → v.ownBlock ≠ some b
/-- .. and apart from the variables. -/
def Awy (p : PcT) (n : Nat) : Prop := ∀ g, n ≤ g → g ≤ n + 7 → AwayP p g
/-- The memory between two rounds: n blocks lay when read began. -/
structure RM (n : Nat) (w : World) (lp : Obj) (v : Value) (out : List UInt8) (next size : Nat) (W : World) : Prop where
  b1 : Boxed W (n + 1) 34 v
  own : W.ownsRow (n + 6) 5 1 v out.length (out.map bv)
  b2 : Boxed W (n + 1 + 1) 3 (.int .i64 (next : Nat))
  b3 : Boxed W (n + 1 + 1 + 1) 3 (.int .i64 (size : Nat))
  d : W.heap[n + 6]? = some (.deferred (some []))
  r : W.heap[n + 7]? = some lp
  bel : Below n w W
theorem no_rowF {W : World} {base : Nat} {e : TypeId} {v : Value} {k : Nat} {xs : List Value} (h : W.ownsRow base e 1 v k xs) {S : Nat} {o : Obj} (hS : W.heap[S]? = some o) (ho : ∀ c fz, o ≠ .cells c e fz) : some S ≠ v.ownBlock := fun e' => by
  obtain ⟨c', fz, h2⟩ := Lib.ownsRow_kind h S e'.symm
  rw [hS] at h2
  injection h2 with h2
  exact ho _ _ h2
section
variable {n : Nat} {w : World} {lp : Obj} {v : Value} {out : List UInt8} {next size : Nat} {W W' : World}
theorem RM.lt (h : RM n w lp v out next size W) : n + 7 < W.heap.size := (Array.getElem?_eq_some_iff.1 h.r).1
theorem RM.drew (h : RM n w lp v out next size W) : RM n w lp v out next size W.drew := ⟨h.b1, h.own, h.b2, h.b3, h.d, h.r, below_drewN h.bel 1⟩
theorem RM.later (h : RM n w lp v out next size W) (hb : Below W.heap.size W W') : RM n w lp v out next size W' := by
  have l : ∀ {k : Nat} {o : Obj}, W.heap[k]? = some o → W'.heap[k]? = some o := fun hk => blk_later hk hb
  exact ⟨l h.b1, own_below h.own hb, l h.b2, l h.b3, l h.d, l h.r, h.bel.trans (hb.mono (by have := h.lt; omega))⟩
theorem RM.turn (h : RM n w lp v out next size W) (hl : lp.isCells = false) (lp' : Obj) : RM n w lp' v out next size (W.putObj (n + 7) lp') := by
  have o : ∀ {k : Nat} {x : Obj}, W.heap[k]? = some x → k ≠ n + 7 → (W.putObj (n + 7) lp').heap[k]? = some x := fun hk hne => (World.putObj_heap_other hne).trans hk
  have hlt := h.lt
  exact ⟨o h.b1 (by omega), ownsRow_putObj h.own _ h.r hl, o h.b2 (by omega), o h.b3 (by omega), o h.d (by omega), World.putObj_heap_same hlt, h.bel.grown (grownBy_putObj' W (n + 7) lp') (by omega) (fun k e => by cases e; omega)⟩
/-- The size is set. -/
theorem RM.sized (h : RM n w lp v out next size W) (size' : Nat) : RM n w lp v out next size' (W.setCell ⟨n + 1 + 1 + 1, 0, none⟩ (.int .i64 (size' : Nat))) := by
  have o : ∀ {k : Nat} {x : Obj}, W.heap[k]? = some x → k ≠ n + 1 + 1 + 1 → (W.setCell ⟨n + 1 + 1 + 1, 0, none⟩ (.int .i64 (size' : Nat))).heap[k]? = some x := fun hk hne => (Below.heap_setCell _ _ _ _ hne).trans hk
  exact ⟨o h.b1 (by omega), ownsRow_setCell_below h.own (by show n + 1 + 1 + 1 < n + 6; omega) _, o h.b2 (by omega), h.b3.set _, o h.d (by omega), o h.r (by omega), h.bel.setCell (by show n ≤ n + 1 + 1 + 1; omega) _⟩
/-- One more byte has been taken. -/
theorem RM.took {x : UInt8} {S : Nat} {C : Array Value} {t : TypeId} {v' : Value} {W1 w7 : World} (h : RM n w lp v out next size W) (hlp : lp.isCells = false) (hS : W.heap[S]? = some (.cells C t (0, 0))) (ht : t ≠ 5) (hSn : n + 7 < S) (hb : Below W.heap.size W W1)
    (hg : W1.grownBy w7 v.ownBlock) (hown : w7.ownsRow (n + 6) 5 1 v' (out.length + 1) (out.map bv ++ [bv x])) (next' : Nat) :
    Boxed w7 (n + 1) 34 v ∧ w7.heap[S]? = some (.cells C t (0, 0)) ∧ (w7.setCell ⟨n + 1, 0, none⟩ v').heap[S]? = some (.cells C t (0, 0)) ∧ Boxed (w7.setCell ⟨n + 1, 0, none⟩ v') (n + 1 + 1) 3 (.int .i64 (next : Nat)) ∧
      RM n w lp v' (out ++ [x]) next' size ((w7.setCell ⟨n + 1, 0, none⟩ v').setCell ⟨n + 1 + 1, 0, none⟩ (.int .i64 (next' : Nat))) := by
  have hlt := h.lt
  have h1 := h.later hb
  have nl : ∀ c fz, lp ≠ .cells c 5 fz := fun c fz e => by rw [e] at hlp; cases hlp
  have ha : ∀ {k : Nat} {o : Obj}, W1.heap[k]? = some o → (k < n + 6 ∨ ∀ c fz, o ≠ .cells c 5 fz) → w7.heap[k]? = some o := fun {k o} hk hne =>
    (hg.block k (Array.getElem?_eq_some_iff.1 hk).1 (by rcases hne with h | h; exact (fun e => by have := (h1.own.lt k e.symm).1; omega); exact no_rowF h1.own hk h)).trans hk
  have g1 := ha h1.b1 (.inl (by omega))
  have g2 := ha h1.b2 (.inl (by omega))
  have g3 := ha h1.b3 (.inl (by omega))
  have gd := ha h1.d (.inr (fun _ _ e => by cases e))
  have gr := ha h1.r (.inr nl)
  have gS := ha (blk_later hS hb) (.inr (fun _ _ e => by injection e with _ e; exact ht e))
  have hb7 : Below n w w7 := h1.bel.grown hg (by have := h1.lt; omega) (fun k e => by have := (h1.own.lt k e).1; omega)
  have f : ∀ {k : Nat} {o : Obj} (a : Nat) (u : Value) (X : World), X.heap[k]? = some o → k ≠ a → (X.setCell ⟨a, 0, none⟩ u).heap[k]? = some o := fun {k o} a u X hX hne => (Below.heap_setCell X _ u k hne).trans hX
  refine ⟨g1, gS, f _ _ _ gS (by omega), f _ _ _ g2 (by omega), ⟨?_, ?_, ?_, f _ _ _ (f _ _ _ g3 (by omega)) (by omega), f _ _ _ (f _ _ _ gd (by omega)) (by omega), f _ _ _ (f _ _ _ gr (by omega)) (by omega), (hb7.setCell (by show n ≤ n + 1; omega) _).setCell (by show n ≤ n + 1 + 1; omega) _⟩⟩
  · have : Boxed (w7.setCell ⟨n + 1, 0, none⟩ v') (n + 1) 34 v' := Boxed.set _ g1
    exact f _ _ _ this (by omega)
  · rw [List.length_append, List.map_append]
    exact ownsRow_setCell_below (ownsRow_setCell_below hown (by show n + 1 < n + 6; omega) _) (by show n + 1 + 1 < n + 6; omega) _
  · have : Boxed (w7.setCell ⟨n + 1, 0, none⟩ v') (n + 1 + 1) 3 (.int .i64 (next : Nat)) := f _ _ _ g2 (by omega)
    exact Boxed.set _ this
/-- The bytes that are read stay too. -/
theorem pc_took {p : PcT} {v' : Value} {W1 w7 : World} {u : Value} (hp : p.Ok W W.heap.size) (ha : Apt p v) (hw : Awy p n) (hb : Below W.heap.size W W1) (hg : W1.grownBy w7 v.ownBlock) (hor : v'.ownBlock = v.ownBlock ∨ v'.ownBlock = some W1.heap.size) :
    p.Ok ((w7.setCell ⟨n + 1, 0, none⟩ v').setCell ⟨n + 1 + 1, 0, none⟩ u) ((w7.setCell ⟨n + 1, 0, none⟩ v').setCell ⟨n + 1 + 1, 0, none⟩ u).heap.size ∧ Apt p v' := by
  have hs := Nat.le_trans hb.size hg.size
  refine ⟨pc_keep hp (by rw [size_set, size_set]; exact hs) (fun b off e hn hlt => ?_), fun b off e hn => ?_⟩
  · have h1 := hw (n + 1) (by omega) (by omega) b off e hn
    have h2 := hw (n + 1 + 1) (by omega) (by omega) b off e hn
    refine (Below.heap_setCell _ _ _ _ h2).trans ((Below.heap_setCell _ _ _ _ h1).trans ?_)
    exact (hg.block b (Nat.lt_of_lt_of_le hlt hb.size) (fun q => ha b off e hn q.symm)).trans (hb.block b hlt)
  · rcases hor with h | h
    · rw [h]; exact ha b off e hn
    · rw [h]
      obtain ⟨b', off', e', hb', _⟩ := hp.here.2 hn
      rw [e] at e'
      injection e' with e'
      injection e' with e1 e2
      have := hb.size
      intro q
      injection q with q
      omega
theorem pc_turn {p : PcT} {lp' : Obj} (hp : p.Ok W W.heap.size) (hw : Awy p n) : p.Ok (W.putObj (n + 7) lp') (W.putObj (n + 7) lp').heap.size := by
  refine pc_keep hp (grownBy_putObj' W (n + 7) lp').size (fun b off e hn hlt => ?_)
  exact World.putObj_heap_other (hw (n + 7) (by omega) (by omega) b off e hn)
theorem pc_sized {p : PcT} {u : Value} (hp : p.Ok W W.heap.size) (hw : Awy p n) : p.Ok (W.setCell ⟨n + 1 + 1 + 1, 0, none⟩ u) (W.setCell ⟨n + 1 + 1 + 1, 0, none⟩ u).heap.size :=
  pc_keep hp (by rw [size_set]; exact Nat.le_refl _) (fun b off e hn hlt => Below.heap_setCell _ _ _ _ (hw (n + 1 + 1 + 1) (by omega) (by omega) b off e hn))
end
end Go.Proofs.YtlknmpnjhbdlhaaDoor
/-
  Layer 11: read.
-/
namespace Go.Proofs.YtlknmpnjhbdlhaaDoor
open Go.RowKit Go.Shelf
set_option linter.unusedVariables false
attribute [local go_sem] Oper.semAt_some

/-- The data bytes at a place, as the program sees them. -/
def lineP (X : FileT) (a : Nat) : List (UInt8 × Nat) := if at8 X.all (a - a % 64) = 0 then Fra.pastP a ((rowR X a).drop (a % 64)) else []
/-- What read gives. -/
def RdP (X : FileT) (a : Nat) (w : World) (e : Ending) (w' : World) : Prop :=
  ∃ (p : PcT) (nx : Nat), e = .returned (.tuple #[.slice p.A p.n p.c, .int .i64 (nx : Nat)]) ∧ (p.l, nx) = Fra.rdGo (lineP X a) [] a 7 ∧ p.Ok w' w'.heap.size ∧ Below w.heap.size w w' ∧ (∀ g, g < w.heap.size → AwayP p g) ∧ p.n ≤ 4400 ∧ nx ≤ 600000
/-- The size behind one more byte. -/
def szN (out : List UInt8) (size : Nat) : Nat := if out.length = 2 then 6 + ((out.getD 0 0).toNat * 256 + (out.getD 1 0).toNat) else size
theorem rd_step (x : UInt8) (e : Nat) (q : List (UInt8 × Nat)) (out : List UInt8) (next size : Nat) : Fra.rdGo ((x, e) :: q) out next size = if 4102 < szN (out ++ [x]) size ∨ (out ++ [x]).length = szN (out ++ [x]) size then (out ++ [x], e) else Fra.rdGo q (out ++ [x]) e (szN (out ++ [x]) size) := rfl
theorem past_here {l : List UInt8} {s i : Nat} (hi : i < l.length) (h : (s + i) % 64 ≠ 0) : Fra.pastP (s + i) (l.drop i) = (l.getD i 0, s + i + 1) :: Fra.pastP (s + i + 1) (l.drop (i + 1)) := by
  rw [List.drop_eq_getElem_cons hi, Fra.pastP_in _ _ h, List.getD_eq_getElem?_getD, List.getElem?_eq_getElem hi]
  rfl
theorem past_skip {l : List UInt8} {s i : Nat} (hi : i < l.length) (h : (s + i) % 64 = 0) (h0 : at8 l i = 0) : Fra.pastP (s + i) (l.drop i) = Fra.pastP (s + (i + 1)) (l.drop (i + 1)) := by
  have hx : l[i] = 0 := by
    unfold at8 at h0
    rw [List.getD_eq_getElem?_getD, List.getElem?_eq_getElem hi] at h0
    have h0 : ((l[i]).toNat : Int) = 0 := h0
    apply UInt8.toNat_inj.1
    show _ = 0
    omega
  rw [List.drop_eq_getElem_cons hi, hx, Fra.pastP_at _ h]
  rfl
theorem past_stop {l : List UInt8} {s i : Nat} (h : l.length ≤ i ∨ (i < l.length ∧ (s + i) % 64 = 0 ∧ at8 l i ≠ 0)) : Fra.pastP (s + i) (l.drop i) = [] := by
  rcases h with h | ⟨hi, h, h0⟩
  · rw [List.drop_eq_nil_of_le h, Fra.pastP_nil]
  · rw [List.drop_eq_getElem_cons hi, Fra.pastP_off _ h]
    intro e
    apply h0
    unfold at8
    rw [List.getD_eq_getElem?_getD, List.getElem?_eq_getElem hi]
    show ((l[i]).toNat : Int) = 0
    rw [e]
    rfl
/-- The memory between two rounds, with the bytes that are read. -/
def PJ (w : World) (lp : Obj) (X : FileT) (a : Nat) (p : PcT) (i : Nat) (W : World) : Prop :=
  ∃ v out next size, RM w.heap.size w lp v out next size W ∧ p.Ok W W.heap.size ∧ p.l = rowR X a ∧ Awy p w.heap.size ∧ Apt p v ∧ Fra.rdGo (Fra.pastP (a - a % 64 + i) (p.l.drop i)) out next size = Fra.rdGo (lineP X a) [] a 7 ∧ out.length ≤ i ∧ i ≤ 4288 ∧ next ≤ 600000 ∧ size ≤ 70000
def PX (w : World) (l1 l2 : Obj) (X : FileT) (a : Nat) (W : World) : Prop :=
  ∃ v out next size lp, (lp = l1 ∨ lp = l2) ∧ RM w.heap.size w lp v out next size W ∧ (out, next) = Fra.rdGo (lineP X a) [] a 7 ∧ out.length ≤ 4300 ∧ next ≤ 600000
theorem RM.drewN {n : Nat} {w : World} {lp : Obj} {v : Value} {out : List UInt8} {next size : Nat} {W : World} (h : RM n w lp v out next size W) (k : Nat) : RM n w lp v out next size (W.drewN k) := ⟨h.b1, h.own, h.b2, h.b3, h.d, h.r, below_drewN h.bel k⟩
theorem read_lay (w W1 : World) (X : FileT) (a : Nat) (h : (((((w.alloc (.cells #[.slice X.F.A X.F.n X.F.c, .slice X.lA X.ln X.lc, .int .i64 X.fuse, .int .i64 X.fault, .bool X.off] 37)).alloc (.cells #[.slice none 0 0] 34)).alloc (.cells #[.int .i64 (a : Nat)] 3)).alloc (.cells #[.int .i64 7] 3)).alloc (.cells #[.slice X.F.A X.F.n X.F.c, .slice X.lA X.ln X.lc, .int .i64 X.fuse, .int .i64 X.fault, .bool X.off] 37)).alloc (.cells #[.int .i64 (a : Nat)] 3) = W1) :
    Boxed W1 (w.heap.size + 1) 34 (.slice none 0 0) ∧ Boxed W1 (w.heap.size + 1 + 1) 3 (.int .i64 (a : Nat)) ∧ Boxed W1 (w.heap.size + 1 + 1 + 1) 3 (.int .i64 ((7 : Nat) : Int)) ∧
    FBox W1 (w.heap.size + 1 + 1 + 1 + 1) X ∧ W1.cell? ⟨w.heap.size + 1 + 1 + 1 + 1 + 1, 0, none⟩ = some (.int .i64 (a : Nat)) ∧ Below w.heap.size w W1 := by
  generalize hw1 : w.alloc (.cells #[.slice X.F.A X.F.n X.F.c, .slice X.lA X.ln X.lc, .int .i64 X.fuse, .int .i64 X.fault, .bool X.off] 37) = w1 at h
  have s1 : w1.heap.size = w.heap.size + 1 := by rw [← hw1, World.size_alloc]
  have e1 := Boxed.new w1 34 (.slice none 0 0)
  generalize hw2 : w1.alloc (.cells #[.slice none 0 0] 34) = w2 at *
  have s2 : w2.heap.size = w.heap.size + 1 + 1 := by rw [← hw2, World.size_alloc, s1]
  have e2 := Boxed.new w2 3 (.int .i64 (a : Nat))
  generalize hw3 : w2.alloc (.cells #[.int .i64 (a : Nat)] 3) = w3 at *
  have s3 : w3.heap.size = w.heap.size + 1 + 1 + 1 := by rw [← hw3, World.size_alloc, s2]
  have e3 := Boxed.new w3 3 (.int .i64 ((7 : Nat) : Int))
  have hx : w3.alloc (.cells #[.int .i64 7] 3) = w3.alloc (.cells #[.int .i64 ((7 : Nat) : Int)] 3) := rfl
  rw [hx] at h
  generalize hw4 : w3.alloc (.cells #[.int .i64 ((7 : Nat) : Int)] 3) = w4 at *
  have s4 : w4.heap.size = w.heap.size + 1 + 1 + 1 + 1 := by rw [← hw4, World.size_alloc, s3]
  have e4 := FBox.new w4 X 37
  generalize hw5 : w4.alloc (.cells #[.slice X.F.A X.F.n X.F.c, .slice X.lA X.ln X.lc, .int .i64 X.fuse, .int .i64 X.fault, .bool X.off] 37) = w5 at *
  have s5 : w5.heap.size = w.heap.size + 1 + 1 + 1 + 1 + 1 := by rw [← hw5, World.size_alloc, s4]
  have e5 := Boxed.new w5 3 (.int .i64 (a : Nat))
  rw [s1] at e1
  rw [s2] at e2
  rw [s3] at e3
  rw [s4] at e4
  rw [s5] at e5
  subst h
  refine ⟨?_, ?_, ?_, ?_, e5.cell, ?_⟩
  · rw [← hw5, ← hw4, ← hw3]; exact (((e1.alloc _).alloc _).alloc _).alloc _
  · rw [← hw5, ← hw4]; exact ((e2.alloc _).alloc _).alloc _
  · rw [← hw5]; exact (e3.alloc _).alloc _
  · exact e4.later (bel_alloc (Below.refl _ _) _)
  · rw [← hw5, ← hw4, ← hw3, ← hw2, ← hw1]
    exact bel_alloc (bel_alloc (bel_alloc (bel_alloc (bel_alloc (bel_alloc (Below.refl _ _) _) _) _) _) _) _
/-- The end: what lies in the own row is handed back. -/
theorem read_end {w W : World} {X : FileT} {lp lq : Obj} {a : Nat} {A : Option Addr} {c next size : Nat} {out : List UInt8} (h : RM w.heap.size w lp (.slice A out.length c) out next size W) (hlq : lq.isCells = false) (hrd : (out, next) = Fra.rdGo (lineP X a) [] a 7) (h1 : out.length ≤ 4300) (h2 : next ≤ 600000) :
    RdP X a w (.returned (.tuple #[.slice A out.length c, .int .i64 (next : Nat)])) (W.putObj (w.heap.size + 6) lq) := by
  have hlt := h.lt
  have ho := ownsRow_putObj h.own lq h.d rfl
  obtain ⟨o1, o2, o3⟩ := own_facts ho
  exact ⟨⟨A, out.length, c, out⟩, next, rfl, hrd, ⟨Bytes.own ho, o1, o2, o3⟩, h.bel.grown (grownBy_putObj' W (w.heap.size + 6) lq) (by omega) (fun k e => by cases e; omega), fun g hg => own_away ho (by omega), by show out.length ≤ 4400; omega, h2⟩
theorem wrap_small (x : Int) (h : 0 ≤ x ∧ x ≤ 1000000) : IntKind.i64.wrap x = x := by rw [IntKind.wrap_i64]; omega
theorem size_sum {u0 u1 sz : Nat} (h0 : u0 < 256) (h1 : u1 < 256) (h : sz = 6 + (u0 * 256 + u1)) : IntKind.i64.wrap (IntKind.i64.wrap (6 + IntKind.i64.wrap (IntKind.i64.wrap (u0 : Int) * 256)) + IntKind.i64.wrap (u1 : Int)) = (sz : Int) := by
  rw [wrap_small (u0 : Int) (by omega), wrap_small (u1 : Int) (by omega), wrap_small ((u0 : Int) * 256) (by omega), wrap_small (6 + (u0 : Int) * 256) (by omega), wrap_small (6 + (u0 : Int) * 256 + (u1 : Int)) (by omega)]
  omega
theorem sz_le (out : List UInt8) (size : Nat) (h : size ≤ 70000) : szN out size ≤ 70000 := by
  unfold szN
  split
  · have := (out.getD 0 0).toNat_lt; have := (out.getD 1 0).toNat_lt; omega
  · exact h
end Go.Proofs.YtlknmpnjhbdlhaaDoor
/-
  Layer 11: Get.
-/
namespace Go.Proofs.YtlknmpnjhbdlhaaDoor
open Go.RowKit
set_option linter.unusedVariables false

theorem line_get (X : FileT) (a : Nat) (ha : a < X.all.length) (ha64 : a % 64 ≠ 0) : Fra.getP (lineP X a) = Fra.getL X.all a := by
  unfold lineP Fra.getL Fra.startB
  have h64 : (a % 64 == 0) = false := beq_eq_false_iff_ne.2 ha64
  rw [decide_eq_true ha, h64]
  by_cases h : X.all.getD (a - a % 64) 0 = 0
  · have h0 : at8 X.all (a - a % 64) = 0 := by unfold at8; rw [h]; rfl
    rw [if_pos h0, h]
    exact Fra.window X.all a _ ha64 rfl ha
  · have h0 : at8 X.all (a - a % 64) ≠ 0 := fun e => h (by
      unfold at8 at e
      have e : ((X.all.getD (a - a % 64) 0).toNat : Int) = 0 := e
      apply UInt8.toNat_inj.1
      show _ = 0
      omega)
    have hb : (X.all.getD (a - a % 64) 0 == 0) = false := beq_eq_false_iff_ne.2 h
    rw [if_neg h0, hb]
    rfl
theorem line_taken (X : FileT) (a : Nat) (ha : a < X.all.length) (ha64 : a % 64 ≠ 0) {b : List UInt8} {nx : Nat} (h : (b, nx) = Fra.rdGo (lineP X a) [] a 7) : Fra.takenL b nx = Fra.getL X.all a := by
  rw [← line_get X a ha ha64, ← Fra.rd_get (lineP X a) a, ← h]
/-- What Get gives. -/
def GetP (g : Option (List UInt8 × Nat)) (w : World) (e : Ending) (w' : World) : Prop :=
  Below w.heap.size w w' ∧ ((g = none ∧ e = .returned (.tuple #[.slice none 0 0, .int .i64 0, .int .i64 210])) ∨ ∃ (p : PcT) (nx : Nat), g = some (p.l, nx) ∧ e = .returned (.tuple #[.slice p.A p.n p.c, .int .i64 (nx : Nat), .int .i64 0]) ∧ p.Ok w' w'.heap.size ∧ (∀ g, g < w.heap.size → AwayP p g))
end Go.Proofs.YtlknmpnjhbdlhaaDoor
/-
  Layer 11: Get within a file.
-/
namespace Go.Proofs.YtlknmpnjhbdlhaaDoor
open Go.RowKit
set_option linter.unusedVariables false

theorem u32_or_nat (a b : Nat) (ha : a < 4294967296) (hb : b < 4294967296) : bits .or .u32 (a : Int) (b : Int) = ((a ||| b : Nat) : Int) := by
  have hx : a ||| b < 2 ^ 32 := Nat.or_lt_two_pow (by omega) (by omega)
  have ho : ∀ n : Nat, n < 4294967296 → (BitVec.ofInt 32 (n : Int)).toNat = n := fun n hn => by
    rw [BitVec.toNat_ofInt]
    omega
  have hw : ∀ n : Nat, n < 4294967296 → IntKind.u32.wrap (n : Int) = (n : Int) := fun n hn => by
    have : IntKind.u32.wrap (n : Int) = (n : Int) % 4294967296 := by simp [IntKind.wrap, IntKind.bits, IntKind.signed]
    rw [this]; omega
  show IntKind.u32.wrap ((BitVec.ofInt 32 (a : Int) ||| BitVec.ofInt 32 (b : Int)).toNat : Int) = _
  rw [BitVec.toNat_or, ho a ha, ho b hb, hw _ (by omega)]
theorem le_or (a b c d : Nat) (ha : a < 256) (hb : b < 256) (hc : c < 256) (hd : d < 256) : bits .or .u32 (bits .or .u32 (bits .or .u32 (a : Int) ((b : Int) * 256)) ((c : Int) * 65536)) ((d : Int) * 16777216) = ((a + 256 * b + 65536 * c + 16777216 * d : Nat) : Int) := by
  have o1 := Nat.two_pow_add_eq_or_of_lt (i := 8) (b := a) (by omega) b
  have o2 := Nat.two_pow_add_eq_or_of_lt (i := 16) (b := 256 * b + a) (by omega) c
  have o3 := Nat.two_pow_add_eq_or_of_lt (i := 24) (b := 65536 * c + (256 * b + a)) (by omega) d
  rw [show (b : Int) * 256 = ((256 * b : Nat) : Int) by omega, u32_or_nat _ _ (by omega) (by omega), Nat.or_comm, ← o1]
  rw [show (c : Int) * 65536 = ((65536 * c : Nat) : Int) by omega, u32_or_nat _ _ (by omega) (by omega), Nat.or_comm, show 65536 * c ||| (2 ^ 8 * b + a) = 2 ^ 16 * c ||| (256 * b + a) from rfl, ← o2]
  rw [show (d : Int) * 16777216 = ((16777216 * d : Nat) : Int) by omega, u32_or_nat _ _ (by omega) (by omega), Nat.or_comm, show 16777216 * d ||| (2 ^ 16 * c + (256 * b + a)) = 2 ^ 24 * d ||| (65536 * c + (256 * b + a)) from rfl, ← o3]
  omega
theorem le_laid {x2 x3 x4 x5 : UInt8} {s : Nat} (hs : s < 4294967296) : [x2, x3, x4, x5] = Crc.laid s ↔ x2.toNat + 256 * x3.toNat + 65536 * x4.toNat + 16777216 * x5.toNat = s := by
  have l2 := x2.toNat_lt
  have l3 := x3.toNat_lt
  have l4 := x4.toNat_lt
  have l5 := x5.toNat_lt
  unfold Crc.laid
  constructor
  · intro h
    simp only [List.cons.injEq, and_true] at h
    obtain ⟨h2, h3, h4, h5⟩ := h
    have e2 := congrArg UInt8.toNat h2
    have e3 := congrArg UInt8.toNat h3
    have e4 := congrArg UInt8.toNat h4
    have e5 := congrArg UInt8.toNat h5
    rw [UInt8.toNat_ofNat'] at e2 e3 e4 e5
    omega
  · intro h
    have e2 : x2 = UInt8.ofNat s := by apply UInt8.toNat_inj.1; rw [UInt8.toNat_ofNat']; omega
    have e3 : x3 = UInt8.ofNat (s / 256) := by apply UInt8.toNat_inj.1; rw [UInt8.toNat_ofNat']; omega
    have e4 : x4 = UInt8.ofNat (s / 65536) := by apply UInt8.toNat_inj.1; rw [UInt8.toNat_ofNat']; omega
    have e5 : x5 = UInt8.ofNat (s / 16777216) := by apply UInt8.toNat_inj.1; rw [UInt8.toNat_ofNat']; omega
    rw [e2, e3, e4, e5]
theorem four_at {l : List UInt8} (h : 6 ≤ l.length) : (l.drop 2).take 4 = [l.getD 2 0, l.getD 3 0, l.getD 4 0, l.getD 5 0] := by
  rcases l with _ | ⟨b0, _ | ⟨b1, _ | ⟨b2, _ | ⟨b3, _ | ⟨b4, _ | ⟨b5, r⟩⟩⟩⟩⟩⟩ <;> first | (simp at h; done) | (simp at h; omega) | rfl

end Go.Proofs.YtlknmpnjhbdlhaaDoor
/-
  Layer 11: the law's small helpers.
-/
namespace Go.Proofs.YtlknmpnjhbdlhaaDoor
open Go.RowKit
set_option linter.unusedVariables false

/-- A row of bytes comes back, away from what lay before. -/
def NewP (l : List UInt8) (w : World) (e : Ending) (w' : World) : Prop :=
  ∃ p : PcT, e = .returned (.slice p.A p.n p.c) ∧ p.l = l ∧ p.Ok w' w'.heap.size ∧ Below w.heap.size w w' ∧ ∀ g, g < w.heap.size → AwayP p g
theorem new_of {l : List UInt8} {w : World} {e : Ending} {w' : World} (h : GivesBytes 5 l w e w') : NewP l w e w' := by
  obtain ⟨A, n, c, rfl, hown, hb⟩ := h
  obtain ⟨o1, o2, o3⟩ := own_facts hown
  exact ⟨⟨A, n, c, l⟩, rfl, rfl, ⟨Bytes.own hown, o1, o2, o3⟩, hb, fun g hg => own_away hown hg⟩
/-- A file of durable bytes. -/
def firmF (p : PcT) : FileT := ⟨p, none, 0, 0, [], -1, -1, false⟩
theorem firm_lie {p : PcT} {w : World} (h : p.Ok w w.heap.size) : LieF w w.heap.size (firmF p) := lie_syn h (by decide) (by decide)
theorem firm_s (p : PcT) : (firmF p).s = ⟨p.l, [], -1, -1, false⟩ := rfl
theorem firm_all (p : PcT) : (firmF p).all = p.l := by unfold FileT.all firmF; simp [joinP]
theorem firm_right {p : PcT} {w : World} (h : p.Ok w w.heap.size) (hn : p.n ≤ 524288) : (firmF p).right = true := by
  unfold FileT.right firmF FileT.long lenGo
  simp
  exact hn
theorem firm_away {p : PcT} {g : Nat} (h : AwayP p g) : AwayF (firmF p) g := ⟨h, fun b off e hn => absurd hn (Nat.lt_irrefl 0), fun q hq => (List.not_mem_nil hq).elim⟩
end Go.Proofs.YtlknmpnjhbdlhaaDoor
/-
  Layer 11: does the layer do anything?
-/
namespace Go.Proofs.YtlknmpnjhbdlhaaDoor
open Go.RowKit
set_option linter.unusedVariables false

section
variable {P : Program} {w : World} {o : Oper} {a : Act} {K : Act → World → Prop} {Q : Exit → Act → World → Prop}
/-- 'make([]T, n)'. -/
theorem step_zeros (l c : Operand) (t : TypeId) (ho : o.op = .makeSlice t l c) (base : Nat) (e : TypeId) (i : TypeInfo) (z : Value) (ht : P.underlying t = some (.slice e)) (hi : P.info? e = some i) (hz : i.zero = some z) (hz1 : z.cells = #[z]) (h1 : i.size = 1) (hby : i.bytes = 1)
    (n : Nat) (hl : a.eval l = .int .i64 (n : Nat)) (hc : a.eval c = .int .i64 (n : Nat)) (hn : n ≤ 1000000) (hb : base ≤ w.heap.size)
    (h : ∀ g w', w'.ownsRow base e 1 (.slice (some ⟨g, 0, none⟩) n n) n (List.replicate n z) → Below w.heap.size w w' → K (a.put o.dst (.slice (some ⟨g, 0, none⟩) n n)) w') : o.wp P a w K Q := by
  have h0 := h w.heap.size (w.alloc (.cells (madeCells #[z] n) e)) (own_zeros w z n n hb (Nat.le_refl _) (by unfold maxLen; omega)) ((Below.refl _ _).alloc (Nat.le_refl _) _)
  have hrun := run_make_one (P := P) ht hi hz hz1 h1 .i64 .i64 (n : Int) (n : Int) (by omega) (by omega) (by rw [hby]; omega) (by omega) w
  rw [Int.toNat_natCast] at hrun
  unfold Oper.wp execOp
  simp only [ho, Sem.run_bind, Sem.run_pure, hl, hc, hrun, Result.andThen_ok]
  exact h0
end
theorem newF_away (g : Nat) : AwayF newF g := ⟨fun b off e hn => absurd hn (Nat.lt_irrefl 0), fun b off e hn => absurd hn (Nat.lt_irrefl 0), fun q hq => (List.not_mem_nil hq).elim⟩
/-- A calm file takes a record. -/
theorem putO_calm (fi : List UInt8) (lo : List (List UInt8)) (b : List UInt8) (h : (fi ++ lo.flatten).length + (Fra.pieceL (fi ++ lo.flatten) (Fra.encL b)).length ≤ 524288) :
    putO ⟨fi, lo, -1, -1, false⟩ (fi ++ lo.flatten).length b = (⟨fi, lo ++ [Fra.pieceL (fi ++ lo.flatten) (Fra.encL b)], -1, -1, false⟩, 0) := by
  have hask : FileS.asked ⟨fi, lo, -1, -1, false⟩ (fi ++ lo.flatten).length (Fra.pieceL (fi ++ lo.flatten) (Fra.encL b)).length = (⟨fi, lo, -1, -1, false⟩, 0) := by
    have h' : ¬ 524288 < (fi ++ lo.flatten).length + (Fra.pieceL (fi ++ lo.flatten) (Fra.encL b)).length := by omega
    unfold FileS.asked
    rw [if_neg (show ¬ (false = true) by decide), if_neg h', if_neg (show ¬ ((-1 : Int) = 0) by decide)]
    rfl
  unfold putO FileS.append
  rw [show FileS.all ⟨fi, lo, -1, -1, false⟩ = fi ++ lo.flatten from rfl, hask, if_pos rfl]
theorem putS (X : FileT) (p : PcT) (fi : List UInt8) (lo : List (List UInt8)) (w : World) (htab : Tab w) (hL : LieF w w.heap.size X) (hp : p.Ok w w.heap.size) (hs : X.s = ⟨fi, lo, -1, -1, false⟩) (hr : X.right = true) (hn : 1 ≤ p.n ∧ p.n ≤ 4096) (h : (fi ++ lo.flatten).length + (Fra.pieceL (fi ++ lo.flatten) (Fra.encL p.l)).length ≤ 524288) :
    Calls Tryd.prog 29 #[X.agg, .slice p.A p.n p.c] w (PutP X ⟨fi, lo ++ [Fra.pieceL (fi ++ lo.flatten) (Fra.encL p.l)], -1, -1, false⟩ (Fra.atN (fi ++ lo.flatten)) 0 w) := by
  have h1 := put_ok X p w.heap.size w htab hL hp (Nat.le_refl _) hr hn
  have e1 : X.all = fi ++ lo.flatten := by rw [← all_s, hs]; rfl
  have e2 : X.long = (fi ++ lo.flatten).length := by rw [(right_all hL hr).1, e1]
  rw [hs, e2, putO_calm fi lo p.l h, e1] at h1
  exact h1
theorem right_calm {X : FileT} {w : World} {B : Nat} {fi : List UInt8} {lo : List (List UInt8)} (hL : LieF w B X) (hs : X.s = ⟨fi, lo, -1, -1, false⟩) (hlo : ∀ l ∈ lo, l ≠ []) (h : (fi ++ lo.flatten).length ≤ 524288) : X.right = true := by
  rw [right_s hL, hs]
  exact rightS.2 ⟨hlo, by show (-1 : Int) ≤ -1; omega, by show (-1 : Int) ≤ -1; omega, (fun h => by cases h), h⟩
def c1L : List UInt8 := Fra.pieceL [] (Fra.encL (List.replicate 60 0))
def c2L : List UInt8 := Fra.pieceL c1L (Fra.encL [7, 8, 9])
theorem c1_len : c1L.length = 68 := by decide +kernel
theorem c1_at : Fra.atN [] = 1 := by decide +kernel
theorem c2_at : Fra.atN c1L = 68 := by decide +kernel
theorem c12_len : (c1L ++ c2L).length = 77 := by decide +kernel
theorem c12_get : Fra.getL (c1L ++ c2L) 68 = some ([7, 8, 9], 77) := by decide +kernel
theorem c12_no : Fra.getL (c1L ++ c2L) 2 = none := by decide +kernel
def s1S : FileS := ⟨[], [c1L], -1, -1, false⟩
def s2S : FileS := ⟨[], [c1L, c2L], -1, -1, false⟩
end Go.Proofs.YtlknmpnjhbdlhaaDoor
/-
  Layer 12: a header is put.
-/
namespace Go.Proofs.YtlknmpnjhbdlhaaDoor
open Go.RowKit
set_option linter.unusedVariables false

theorem gap_neg (n : Nat) (hn : n ≤ 524288) : bits .and .i64 (-(n : Int)) 63 = (Hdr.gapN n : Int) := by
  have hx : (BitVec.ofInt 64 (-(n : Int))).toNat % 64 = Hdr.gapN n := by
    rw [BitVec.toNat_ofInt]
    unfold Hdr.gapN
    omega
  have h63 : (BitVec.ofInt 64 63).toNat = 2 ^ 6 - 1 := by decide
  have hl : Hdr.gapN n < 64 := by unfold Hdr.gapN; omega
  show IntKind.i64.wrap ((BitVec.ofInt 64 (-(n : Int)) &&& BitVec.ofInt 64 63).toNat : Int) = _
  rw [BitVec.toNat_and, h63, Nat.and_two_pow_sub_one_eq_mod, show (2 : Nat) ^ 6 = 64 from rfl, hx, IntKind.wrap_i64]
  omega
/-- The three variables with which Put begins. -/
theorem put_begin (w : World) (X : FileT) (g : Nat) (a : Int) : ∀ W, ((w.alloc (.cells #[.slice X.F.A X.F.n X.F.c, .slice X.lA X.ln X.lc, .int .i64 X.fuse, .int .i64 X.fault, .bool X.off] 37)).alloc (.cells #[.int .u64 (g : Int), .int .i64 a] 24)).alloc (.cells #[.slice none 0 0, .slice none 0 0, .int .i64 0, .int .i64 0, .bool false] 37) = W →
    FBox W w.heap.size X ∧ HBox W (w.heap.size + 1) g a ∧ FVar W (w.heap.size + 1 + 1) (.slice none 0 0) (.slice none 0 0) (.int .i64 0) (.int .i64 0) (.bool false) ∧ W.heap.size = w.heap.size + 1 + 1 + 1 ∧ Below w.heap.size w W := by
  rintro W rfl
  have h2 := heap_alloc_new (w.alloc (.cells #[.slice X.F.A X.F.n X.F.c, .slice X.lA X.ln X.lc, .int .i64 X.fuse, .int .i64 X.fault, .bool X.off] 37)) (.cells #[.int .u64 (g : Int), .int .i64 a] 24)
  have h3 := FVar.new ((w.alloc (.cells #[.slice X.F.A X.F.n X.F.c, .slice X.lA X.ln X.lc, .int .i64 X.fuse, .int .i64 X.fault, .bool X.off] 37)).alloc (.cells #[.int .u64 (g : Int), .int .i64 a] 24)) (.slice none 0 0) (.slice none 0 0) (.int .i64 0) (.int .i64 0) (.bool false) 37
  rw [World.size_alloc] at h2
  rw [World.size_alloc, World.size_alloc] at h3
  exact ⟨(FBox.new w X 37).later (bel_alloc (bel_alloc (Below.refl _ _) _) _), (show HBox _ _ g a from h2).later (bel_alloc (Below.refl _ _) _), h3, by simp, bel_alloc (bel_alloc (bel_alloc (Below.refl _ _) _) _) _⟩
set_option maxRecDepth 20000 in
set_option maxHeartbeats 2000000 in
theorem putH_bad (X : FileT) (g : Nat) (a : Int) (Zp : Nat → Prop) (B : Nat) (w : World) (hL : LieF w B X) (hB : B ≤ w.heap.size) (hN : ∀ p ∈ X.Q, p.n ≤ 1048576) (hr : X.right = false) :
    Calls Tryd.prog 16 #[X.agg, .agg #[.int .u64 (g : Int), .int .i64 a]] w (OpP X Zp (X.s, 200) w) := by
  have hch := fun W (h : Below w.heap.size w W) => checkF_any X B W (hL.later (h.mono hB)) (Nat.le_trans hB h.size) hN
  rw [hr] at hch
  simp only [FileT.agg, PcT.val] at hch ⊢
  have HB := put_begin w X g a
  clear hN hr
  go_enter Tryd.func16, Tryd.ntmps16
  go_upto_region 1 with fail
  generalize ((w.alloc (.cells #[.slice X.F.A X.F.n X.F.c, .slice X.lA X.ln X.lc, .int .i64 X.fuse, .int .i64 X.fault, .bool X.off] 37)).alloc (.cells #[.int .u64 (g : Int), .int .i64 a] 24)).alloc (.cells #[.slice none 0 0, .slice none 0 0, .int .i64 0, .int .i64 0, .bool false] 37) = W1 at *
  obtain ⟨HX, hh, HV, hs, hb1⟩ := HB W1 rfl
  obtain ⟨f0, f1, f2, f3, f4⟩ := HX
  clear HB
  go_wp2_with fail
  refine (hch _ hb1).mono ?_
  rintro e W2 ⟨rfl, hb2⟩
  have hb3 := bel_next hb1 hb2
  have f0' := kept_later hb2 f0
  have f1' := kept_later hb2 f1
  have f2' := kept_later hb2 f2
  have f3' := kept_later hb2 f3
  have f4' := kept_later hb2 f4
  obtain ⟨⟨j0, j1, j2, j3, j4⟩, k0, k1, k2, k3, k4⟩ := HV.later hb2
  have hbe := fbelow_set5 (a := .slice X.F.A X.F.n X.F.c) (b := .slice X.lA X.ln X.lc) (c := .int .i64 X.fuse) (d := .int .i64 X.fault) (e := .bool X.off) hb3 (show w.heap.size ≤ w.heap.size + 1 + 1 by omega)
  have hLe := (hL.later (hbe.mono hB)).more (Nat.le_trans hB hbe.size)
  clear hch f0 f1 f2 f3 f4 HV hb1 hb2 hL hh
  go_wp2
  (try rw [Exit.noGoto_ret])
  refine bodyPost_ret (v := .tuple #[.agg #[.slice X.F.A X.F.n X.F.c, .slice X.lA X.ln X.lc, .int .i64 X.fuse, .int .i64 X.fault, .bool X.off], .int .i64 200]) ?_ rfl ⟨X, rfl, rfl, hLe, hbe, fun _ _ h _ => h⟩
  simp [results, Tryd.results16, go_sem, *]
set_option maxRecDepth 20000 in
set_option maxHeartbeats 2000000 in
theorem putH_not (X : FileT) (g : Nat) (a : Int) (Zp : Nat → Prop) (B : Nat) (w : World) (hL : LieF w B X) (hB : B ≤ w.heap.size) (hr : X.right = true) (ho : okH g a = false) :
    Calls Tryd.prog 16 #[X.agg, .agg #[.int .u64 (g : Int), .int .i64 a]] w (OpP X Zp (X.s, 220) w) := by
  have hch := fun W (h : Below w.heap.size w W) => checkF_any X B W (hL.later (h.mono hB)) (Nat.le_trans hB h.size) (right_rows hL hr).1
  rw [hr] at hch
  simp only [if_true] at hch
  simp only [FileT.agg, PcT.val] at hch ⊢
  have hch2 := fun W => checkH_any g a W
  rw [errH_no ho] at hch2
  have HB := put_begin w X g a
  clear hr ho
  go_enter Tryd.func16, Tryd.ntmps16
  go_upto_region 1 with fail
  generalize ((w.alloc (.cells #[.slice X.F.A X.F.n X.F.c, .slice X.lA X.ln X.lc, .int .i64 X.fuse, .int .i64 X.fault, .bool X.off] 37)).alloc (.cells #[.int .u64 (g : Int), .int .i64 a] 24)).alloc (.cells #[.slice none 0 0, .slice none 0 0, .int .i64 0, .int .i64 0, .bool false] 37) = W1 at *
  obtain ⟨HX, hh, HV, hs, hb1⟩ := HB W1 rfl
  obtain ⟨f0, f1, f2, f3, f4⟩ := HX
  clear HB
  go_wp2_with fail
  refine (hch _ hb1).mono ?_
  rintro e W2 ⟨rfl, hb2⟩
  have hb3 := bel_next hb1 hb2
  have HX2 : FBox W2 w.heap.size X := FBox.later ⟨f0, f1, f2, f3, f4⟩ hb2
  have hh2 := hh.later hb2
  have y0 := hh2.c0
  have y1 := hh2.c1
  have HV2 := Lib.hid (HV.later hb2)
  clear hch f0 f1 f2 f3 f4 HV hb1 hb2 hh
  go_wp2_with fail
  refine (hch2 _).mono ?_
  rintro e W3 ⟨rfl, hb4⟩
  have hb5 := bel_next hb3 hb4
  obtain ⟨f0, f1, f2, f3, f4⟩ := HX2.later hb4
  obtain ⟨⟨j0, j1, j2, j3, j4⟩, k0, k1, k2, k3, k4⟩ := HV2.out.later hb4
  have hbe := fbelow_set5 (a := .slice X.F.A X.F.n X.F.c) (b := .slice X.lA X.ln X.lc) (c := .int .i64 X.fuse) (d := .int .i64 X.fault) (e := .bool X.off) hb5 (show w.heap.size ≤ w.heap.size + 1 + 1 by omega)
  have hLe := (hL.later (hbe.mono hB)).more (Nat.le_trans hB hbe.size)
  clear hch2 HX2 HV2 hb3 hb4 hh2 y0 y1 hL
  go_wp2
  (try rw [Exit.noGoto_ret])
  refine bodyPost_ret (v := .tuple #[.agg #[.slice X.F.A X.F.n X.F.c, .slice X.lA X.ln X.lc, .int .i64 X.fuse, .int .i64 X.fault, .bool X.off], .int .i64 220]) ?_ rfl ⟨X, rfl, rfl, hLe, hbe, fun _ _ h _ => h⟩
  simp [results, Tryd.results16, go_sem, *]
end Go.Proofs.YtlknmpnjhbdlhaaDoor
/-
  Layer 12: a header that may be is put to a file that may be.
-/
namespace Go.Proofs.YtlknmpnjhbdlhaaDoor
open Go.RowKit
set_option linter.unusedVariables false

theorem zeros_bv (n : Nat) : List.replicate n (Value.int .u8 0) = (List.replicate n (0 : UInt8)).map bv := by rw [List.map_replicate]; rfl
set_option maxRecDepth 100000 in
set_option maxHeartbeats 4000000 in
theorem putH_ok (X : FileT) (g a : Nat) (B : Nat) (w : World) (htab : Tab w) (hL : LieF w B X) (hB : B ≤ w.heap.size) (hr : X.right = true) (hg1 : 1 ≤ g) (hg : g < 18446744073709551616) (ha : a < 524288) :
    Calls Tryd.prog 16 #[X.agg, .agg #[.int .u64 (g : Int), .int .i64 (a : Nat)]] w (OpP X (fun _ => True) (X.s.append X.long (Hdr.headL X.all.length g a)) w) := by
  obtain ⟨i0, hi, hz0, hz1, hz2⟩ := u8_info
  obtain ⟨hlong, hmax⟩ := right_all hL hr
  have hch := fun W (h : Below w.heap.size w W) => checkF_any X B W (hL.later (h.mono hB)) (Nat.le_trans hB h.size) (right_rows hL hr).1
  rw [hr] at hch
  simp only [if_true] at hch
  have hln := fun W (h : Below w.heap.size w W) => lenF_any X B W (hL.later (h.mono hB)) (Nat.le_trans hB h.size) (right_rows hL hr).1
  rw [hr, hlong] at hln
  simp only [if_true] at hln
  have hch2 := fun W => checkH_any g (a : Nat) W
  rw [errH_yes (okH_iff.2 ⟨hg1, by omega, by omega⟩)] at hch2
  have HBK := Lib.hid (fun W (h : Below w.heap.size w W) => blockH_ok g a W (htab.below h htab.lt) hg1 hg ha)
  have HCA := Lib.hid (fun W (h : Below w.heap.size w W) (p : PcT) (hp : p.Ok W W.heap.size) (hn : ¬ p.n = 0) => show Calls Tryd.prog 38 #[X.agg, p.val] W (OpP X (AwayP p) (X.s.append X.long p.l) W) by
    have h1 := appendF_any X p W.heap.size W ((hL.later (h.mono hB)).more (Nat.le_trans hB h.size)) hp (Nat.le_refl _) hr
    rwa [if_neg hn] at h1)
  have HXA := Lib.hid (fun x (hx : w.heap.size ≤ x) => show AwayF X x from hL.away (by omega))
  obtain ⟨n, hn⟩ : ∃ n, X.all.length = n := ⟨_, rfl⟩
  obtain ⟨out, hout⟩ : ∃ out, X.s.append X.long (Hdr.headL X.all.length g a) = out := ⟨_, rfl⟩
  have HOUT := Lib.hid (show X.s.append X.long (Hdr.headL n g a) = out by rw [← hn]; exact hout)
  rw [hout]
  rw [hn] at hln hmax
  have hgap := gap_neg n hmax
  have HZZ := Lib.hid (show List.replicate (Hdr.gapN n) (Value.int .u8 0) ++ (Hdr.blockL g a).map bv = (Hdr.headL n g a).map bv by unfold Hdr.headL; rw [List.map_append, zeros_bv])
  obtain ⟨gap, hgp⟩ : ∃ gap, Hdr.gapN n = gap := ⟨_, rfl⟩
  rw [hgp] at hgap HZZ
  have hg64 : gap < 64 := by rw [← hgp]; unfold Hdr.gapN; omega
  have HBL := Lib.hid (Hdr.block_len g a)
  have hwn : RowKit.wrap64 (-(n : Int)) = -(n : Int) := by unfold RowKit.wrap64; omega
  have hwn2 : IntKind.i64.wrap (-(n : Int)) = -(n : Int) := by rw [IntKind.wrap_i64]; omega
  clear hout hgp hg hn hlong
  simp only [FileT.agg, PcT.val] at hch hln ⊢
  have HB := put_begin w X g (a : Nat)
  clear hr
  go_enter Tryd.func16, Tryd.ntmps16
  go_upto_region 1 with fail
  generalize ((w.alloc (.cells #[.slice X.F.A X.F.n X.F.c, .slice X.lA X.ln X.lc, .int .i64 X.fuse, .int .i64 X.fault, .bool X.off] 37)).alloc (.cells #[.int .u64 (g : Int), .int .i64 (a : Nat)] 24)).alloc (.cells #[.slice none 0 0, .slice none 0 0, .int .i64 0, .int .i64 0, .bool false] 37) = W1 at *
  obtain ⟨HX, hh, HV, hs, hb1⟩ := HB W1 rfl
  obtain ⟨f0, f1, f2, f3, f4⟩ := HX
  clear HB
  go_wp2_with fail
  refine (hch _ hb1).mono ?_
  rintro e W2 ⟨rfl, hb2⟩
  have hb3 := bel_next hb1 hb2
  have HX2 : FBox W2 w.heap.size X := FBox.later ⟨f0, f1, f2, f3, f4⟩ hb2
  have hh2 := hh.later hb2
  have y0 := hh2.c0
  have y1 := hh2.c1
  have HV2 := Lib.hid (HV.later hb2)
  have hs2 := hb2.size
  clear hch f0 f1 f2 f3 f4 HV hb1 hb2 hh
  go_wp2_with fail
  refine (hch2 _).mono ?_
  rintro e W3 ⟨rfl, hb4⟩
  have hb5 := bel_next hb3 hb4
  have hs3 := hb4.size
  have HX3 := HX2.later hb4
  have hh3 := hh2.later hb4
  have HV3 := Lib.hid (HV2.out.later hb4)
  obtain ⟨f0, f1, f2, f3, f4⟩ := HX3
  clear hch2 HX2 HV2 hb3 hb4 hh2 y0 y1
  go_wp2_with fail
  refine (hln _ hb5).mono ?_
  rintro e W4 ⟨rfl, hb6⟩
  have hb7 := bel_next hb5 hb6
  have hs4 := hb6.size
  have HX4 := Lib.hid (FBox.later ⟨f0, f1, f2, f3, f4⟩ hb6)
  have hh4 := hh3.later hb6
  have HV4 := Lib.hid (HV3.out.later hb6)
  have y0 := hh4.c0
  have y1 := hh4.c1
  clear hln f0 f1 f2 f3 f4 hh3 HV3 hb5 hb6
  go_upto_region 6 with fail
  go_upto_region 7 with (first
    | (go_at_call 15; refine (HBK.out _ hb7).mono ?_; rintro e w5 ⟨rfl, hb8⟩; have hA5 := arr_lit w5)
    | (with_reducible refine wpList_storeArr rfl (.tmp 7) (.tmp 23) rfl rfl rfl hA5 (info64 z64_len) (HBL.out.trans z64_len.symm) ?_; intro W5 ha6 hb9))
  (try simp only [Act.put])
  have hb10 : Below W4.heap.size W4 W5 := (bel_alloc hb8 _).trans (hb9.below _ hb8.size)
  have hb11 := hb7.trans (hb10.mono hb7.size)
  obtain ⟨f0, f1, f2, f3, f4⟩ := HX4.out.later hb10
  have hn1 : w.heap.size < W4.heap.size := by omega
  have hs5 := hb10.size
  have x0 : ∀ W, Below (w.heap.size + 1 + 1) W5 W → W.cell? ⟨w.heap.size, 0, none⟩ = some (.slice X.F.A X.F.n X.F.c) := fun W h => (h.cell (by show w.heap.size < _; omega)).trans f0
  have x1 : ∀ W, Below (w.heap.size + 1 + 1) W5 W → W.cell? ⟨w.heap.size, 1, none⟩ = some (.slice X.lA X.ln X.lc) := fun W h => (h.cell (by show w.heap.size < _; omega)).trans f1
  have x2 : ∀ W, Below (w.heap.size + 1 + 1) W5 W → W.cell? ⟨w.heap.size, 2, none⟩ = some (.int .i64 X.fuse) := fun W h => (h.cell (by show w.heap.size < _; omega)).trans f2
  have x3 : ∀ W, Below (w.heap.size + 1 + 1) W5 W → W.cell? ⟨w.heap.size, 3, none⟩ = some (.int .i64 X.fault) := fun W h => (h.cell (by show w.heap.size < _; omega)).trans f3
  have x4 : ∀ W, Below (w.heap.size + 1 + 1) W5 W → W.cell? ⟨w.heap.size, 4, none⟩ = some (.bool X.off) := fun W h => (h.cell (by show w.heap.size < _; omega)).trans f4
  have HV := Lib.hid (HV4.out.later hb10)
  obtain ⟨ga, hga⟩ : ∃ ga, w5.heap.size = ga := ⟨_, rfl⟩
  rw [hga] at ha6 ⊢
  have HAR := Lib.hid ha6
  have hcA := Lib.hid (fun W (h : Below W5.heap.size W5 W) => HCA.out W (hb11.trans (h.mono hb11.size)))
  have HB11 := Lib.hid hb11
  have hB0 : w.heap.size + 1 + 1 ≤ W5.heap.size := by omega
  clear f0 f1 f2 f3 f4 hga ha6 hb8 hb9 hA5 hb10 HX4 HV4 y0 y1 hh4 hb7 hb11 HCA HBK hL
  refine wp_region_held_drew (S := fun W => Below (w.heap.size + 1 + 1) W5 W) (by kernel_rfl) (below_drewN (Below.refl _ _) 1) (fun hHeld => ?_)
  refine rg_in 0 rfl (by kernel_rfl) (by kernel_rfl) (by kernel_rfl) (by rfl) (v := ?_) (fun _ _ _ h => h) hHeld (fun w hSw => ?_) ?_
  rotate_left
  · (try dsimp only at hSw); go_simp <;> (with_reducible rfl)
  (try simp only [Act.put, List.setIfInBounds_toArray, List.set_cons_zero, List.set_cons_succ])
  refine rg_in 1 rfl (by kernel_rfl) (by kernel_rfl) (by kernel_rfl) (by rfl) (v := ?_) (fun _ _ _ h => h) hHeld (fun w hSw => ?_) ?_
  rotate_left
  · (try dsimp only at hSw); go_simp <;> (with_reducible rfl)
  (try simp only [Act.put, List.setIfInBounds_toArray, List.set_cons_zero, List.set_cons_succ])
  refine rg_in 3 rfl (by kernel_rfl) (by kernel_rfl) (by kernel_rfl) (by rfl) (v := ?_) (fun _ _ _ h => h) hHeld (fun w hSw => ?_) ?_
  rotate_left
  · (try dsimp only at hSw); go_simp <;> (with_reducible rfl)
  (try simp only [Act.put, List.setIfInBounds_toArray, List.set_cons_zero, List.set_cons_succ])
  refine rg_do 2 rfl (by kernel_rfl) (by rfl) (fun K hK => ?_)
  refine step_zeros (.tmp 25) (.tmp 25) 34 rfl W5.heap.size 5 i0 (.int .u8 0) Tryd.underlying34 hi hz0 rfl hz1 hz2 gap rfl rfl (by omega) (Nat.le_refl _) ?_
  intro g1 w102 own1 hb2
  refine hK.out _ _ (hHeld.trans (hb2.mono hB0)) (fun hHeld => ?_)
  clear hK K
  (try simp only [Act.put, List.setIfInBounds_toArray, List.set_cons_zero, List.set_cons_succ])
  refine rg_do 4 rfl (by kernel_rfl) (by rfl) (fun K hK => ?_)
  have hA4 : Arr w102 ga 25 (Hdr.blockL g a) := (HAR.out.drew).later hb2
  refine wp_append_shows _ (.tmp 26) (.tmp 27) 34 rfl W5.heap.size 5 i0 (.int .u8 0) 1 1 Tryd.underlying34 hi hz0 hz1 hz2 rfl (by decide) _ gap _ rfl own1 (ga + 1) (some ⟨ga, 0, none⟩) 64 64 ((Hdr.blockL g a).map bv) rfl (by have hq := hA4.bytes (Nat.lt_succ_self ga); rw [HBL.out] at hq; exact hq) (bv_one _) (by unfold maxLen; omega) (by omega) (by exact hb2.size) ?_
  intro A4 c4 w104 own4 hgr4 hb4
  refine hK.out _ _ (hHeld.trans (hb4.mono hB0)) (fun hHeld => ?_)
  clear hK K
  (try simp only [Act.put, List.setIfInBounds_toArray, List.set_cons_zero, List.set_cons_succ])
  refine rg_do 5 rfl (by kernel_rfl) (by rfl) (fun K hK => ?_)
  have hb24 : Below W5.heap.size W5 w104 := (below_undrew hb2).trans hb4
  rw [HZZ.out] at own4
  obtain ⟨o1, o2, o3⟩ := own_facts own4
  have hpo : PcT.Ok w104 w104.heap.size ⟨A4, gap + 64, c4, Hdr.headL n g a⟩ := ⟨Bytes.own own4, o1, o2, o3⟩
  have HPW := Lib.hid (fun x (hx : x < W5.heap.size) => show AwayP ⟨A4, gap + 64, c4, Hdr.headL n g a⟩ x from own_away own4 hx)
  have hcl := hcA.out w104 hb24 ⟨A4, gap + 64, c4, Hdr.headL n g a⟩ hpo (by show ¬ gap + 64 = 0; omega)
  simp only [FileT.agg, PcT.val] at hcl
  rw [HOUT.out] at hcl
  go_simp
  (go_at_call 38; (with_reducible refine hcl.mono ?_); (rintro e w105 ⟨Y, rfl, hYs, hYL, hb5, hYa⟩))
  simp only [FileT.agg, PcT.val]
  refine hK.out _ _ (hHeld.trans (hb5.mono (Nat.le_trans hB0 hb24.size))) (fun hHeld => ?_)
  clear hK K
  (try simp only [Act.put, List.setIfInBounds_toArray, List.set_cons_zero, List.set_cons_succ])
  refine rg_in 6 rfl (by kernel_rfl) (by kernel_rfl) (by kernel_rfl) (by rfl) (v := ?_) (fun _ _ _ h => h) hHeld (fun w hSw => ?_) ?_
  rotate_left
  · (try dsimp only at hSw); go_simp <;> (with_reducible rfl)
  (try simp only [Act.put, List.setIfInBounds_toArray, List.set_cons_zero, List.set_cons_succ])
  refine rg_in 7 rfl (by kernel_rfl) (by kernel_rfl) (by kernel_rfl) (by rfl) (v := ?_) (fun _ _ _ h => h) hHeld (fun w hSw => ?_) ?_
  rotate_left
  · (try dsimp only at hSw); go_simp <;> (with_reducible rfl)
  (try simp only [Act.put, List.setIfInBounds_toArray, List.set_cons_zero, List.set_cons_succ])
  refine rg_do 8 rfl (by kernel_rfl) (by rfl) (fun K hK => ?_)
  have hb25 := hb24.trans (hb5.mono hb24.size)
  have hV := HV.out.later hb25
  have q0 := hV.1.1
  have q1 := hV.1.2.1
  have q2 := hV.1.2.2.1
  have q3 := hV.1.2.2.2.1
  have q4 := hV.1.2.2.2.2
  have p0 := hV.2.1
  have p1 := hV.2.2.1
  have p2 := hV.2.2.2.1
  have p3 := hV.2.2.2.2.1
  have p4 := hV.2.2.2.2.2
  clear hcl
  go_simp
  clear q0 q1 q2 q3 q4 p0 p1 p2 p3 p4
  refine hK.out _ _ (fbelow_set5 hHeld (Nat.le_refl _)) (fun hHeld => ?_)
  clear hK K
  (try simp only [Act.put, List.setIfInBounds_toArray, List.set_cons_zero, List.set_cons_succ])
  refine rg_in 9 rfl (by kernel_rfl) (by kernel_rfl) (by kernel_rfl) (by rfl) (v := ?_) (fun _ _ _ h => h) hHeld (fun w hSw => ?_) ?_
  rotate_left
  · (try dsimp only at hSw); go_simp <;> (with_reducible rfl)
  (try simp only [Act.put, List.setIfInBounds_toArray, List.set_cons_zero, List.set_cons_succ])
  refine wpAnyH_done (by kernel_rfl) ?_ _
  skip
  have hbe : Below w.heap.size w105 (set5F w105 (w.heap.size + 1 + 1) (.slice Y.F.A Y.F.n Y.F.c) (.slice Y.lA Y.ln Y.lc) (.int .i64 Y.fuse) (.int .i64 Y.fault) (.bool Y.off)) := fbelow_set5 (Below.refl _ _) (by omega)
  have hbf := (HB11.out.trans (hb25.mono HB11.out.size)).trans hbe
  have hLe := lie_res (a := .slice Y.F.A Y.F.n Y.F.c) (b := .slice Y.lA Y.ln Y.lc) (c := .int .i64 Y.fuse) (d := .int .i64 Y.fault) (e := .bool Y.off) hYL (hYa (w.heap.size + 1 + 1) (by have := hb24.size; omega) (HXA.out _ (by omega)) (HPW.out _ (by omega)))
  have HYA := Lib.hid (show ∀ x, x < w.heap.size → AwayF X x → True → AwayF Y x from fun x h1 h2 _ => hYa x (by have := hb24.size; omega) h2 (HPW.out x (by omega)))
  have HE := Lib.hid (And.intro hLe hbf)
  unfold set5F at HE
  obtain ⟨⟨j0, j1, j2, j3, j4⟩, k0, k1, k2, k3, k4⟩ := hV
  clear hLe hbf hbe HPW HXA hYa x0 x1 x2 x3 x4 hHeld own4 own1 hgr4 hpo hYL
  go_wp2
  (try rw [Exit.noGoto_ret])
  refine bodyPost_ret (v := .tuple #[.agg #[.slice Y.F.A Y.F.n Y.F.c, .slice Y.lA Y.ln Y.lc, .int .i64 Y.fuse, .int .i64 Y.fault, .bool Y.off], .int .i64 out.2]) ?_ rfl ⟨Y, rfl, hYs, HE.out.1, HE.out.2, HYA.out⟩
  simp [results, Tryd.results16, go_sem, *]
end Go.Proofs.YtlknmpnjhbdlhaaDoor
/-
  Layer 12: the iterator over the blocks of a file, from the last one down.
-/
namespace Go.Proofs.YtlknmpnjhbdlhaaDoor
open Go.RowKit Go.Shelf
set_option linter.unusedVariables false
attribute [local go_sem] Oper.semAt_some

/-- A whole array is loaded out of a row, within a range over a function, at a guarded operation that is wanted. -/
theorem wpListIn_loadRow {F : Fence} {n : Nat} {P : Program} {ops : Array Oper} {Q : Exit → Act → World → Prop} {a : Act} {w : World} {rest : List Oper} {o : Oper} (hw : Region.wanted o (yielded ops a.tmps) = true) (x : Operand) {t : TypeId} (ho : o.op = .load t x)
    {b off B k : Nat} (hx : a.eval x = .pointer (some ⟨b, off, none⟩)) {l : List UInt8} (hl : Bytes w B (some ⟨b, off, none⟩) k l) (hk : 0 < k) {m : Nat} {e : TypeId} (hu : P.underlying t = some (.array m e)) (hi : (P.info? t).map (·.size) = some l.length)
    (h : wpListIn F n P ops Q rest (a.put o.dst (arrV l)) w) : wpListIn F n P ops Q (o :: rest) a w :=
  BigFrame.wpListIn_want hw fun K hK => by
    obtain ⟨b', off', e', _, hc⟩ := hl.2 hk
    injection e' with e'
    injection e' with e1 e2
    subst e1 e2
    have hr := run_loadAt_mid (P := P) w b off t (l.map bv) _ hc hu rfl (by rw [List.length_map]; exact hi)
    refine ⟨fun f hf => ?_, ?_⟩
    · simp [Oper.about, ho] at hf
    · rw [Oper.semAt_eq _ _ _ (by simp [ho])]
      unfold execOp
      simp only [ho, hx, Sem.run_bind, Sem.run_pure, Result.andThen_ok, hr]
      exact hK _ _ h
theorem blk_between (l : List UInt8) (k : Nat) : between l (64 * k) (64 * k + 64) = Hdr.blk l k := by
  unfold between Hdr.blk
  rw [List.drop_take, show 64 * k + 64 - 64 * k = 64 by omega]
set_option maxRecDepth 20000 in
theorem blocks_any (X : FileT) (w : World) :
    Calls Tryd.prog 42 #[X.agg] w fun e w' => e = .returned (.func (.func 58) #[] #[.pointer (some ⟨w.heap.size, 0, none⟩)]) ∧ w.alloc (.cells #[.slice X.F.A X.F.n X.F.c, .slice X.lA X.ln X.lc, .int .i64 X.fuse, .int .i64 X.fault, .bool X.off] 37) = w' := by
  simp only [FileT.agg, PcT.val]
  go_enter Tryd.func42, Tryd.ntmps42
  go_wp2
  go_ret
  exact ⟨by simp, rfl⟩
set_option maxRecDepth 100000 in
set_option maxHeartbeats 4000000 in
theorem blocks_in (n : Nat) (hn : 1 ≤ n) (ln Bf : Nat) (X : FileT) (J0 : World → Prop) (J : Nat → World → Prop) (Jx : World → Prop) (m : Nat) (hm : (X.right = true ∧ m = X.all.length) ∨ (X.right = false ∧ m = 0))
    (hN : ∀ p ∈ X.Q, p.n ≤ 1048576)
    (h0 : ∀ W, J0 W → FBox W Bf X ∧ LieF W W.heap.size X)
    (h1 : ∀ W W', J0 W → Below W.heap.size W W' → J (m / 64) W')
    (hK : ∀ k W, J k W → FBox W Bf X ∧ LieF W W.heap.size X)
    (hB : ∀ k W W', J k W → Below W.heap.size W W' → J k W')
    (hE : ∀ W, J 0 W → Jx W)
    (hY : ∀ k W, J (k + 1) W → k < m / 64 → YieldAt Fence.wide (n - 1) Tryd.prog ln #[.int .i64 ((64 * k : Nat) : Int), arrV (Hdr.blk X.all k)] W (YesNo (J k) Jx))
    (W0 : World) (hj : J0 W0) :
    CallsIn Fence.wide n Tryd.prog 58 #[.func (.yield ln) #[] #[], .pointer (some ⟨Bf, 0, none⟩)] W0 fun e W' => (∃ v, e = .returned v) ∧ Jx W' := by
  obtain ⟨f, hL⟩ := h0 W0 hj
  have hln := Lib.hid (lenF_any X W0.heap.size W0 hL (Nat.le_refl _) hN)
  have hlm : (if X.right = true then (X.long : Nat) else 0 : Int) = (m : Int) := by
    rcases hm with ⟨h, e⟩ | ⟨h, e⟩
    · rw [if_pos h, e, (right_all hL h).1]
    · rw [if_neg (by rw [h]; decide), e]; rfl
  have hmm : m ≤ 524288 := by
    rcases hm with ⟨h, e⟩ | ⟨h, e⟩
    · rw [e]; exact (right_all hL h).2
    · omega
  rw [hlm] at hln
  simp only [FileT.agg, PcT.val] at hln
  have HRD := Lib.hid (fun W k (hw : J (k + 1) W) (hk : k < m / 64) => show Calls Tryd.prog 59 #[X.agg, .int .i64 ((64 * k : Nat) : Int), .int .i64 64] W (ReadP X (64 * k) 64 W) by
    have hr : X.right = true ∧ m = X.all.length := hm.resolve_right (by rintro ⟨-, e⟩; omega)
    have h := readF_ok X (64 * k) 64 W.heap.size W (hK _ W hw).2 (Nat.le_refl _) (right_rows hL hr.1).1 hr.1 (by rw [(right_all hL hr.1).1]; omega)
    exact h)
  have HBL := Lib.hid (fun k (hk : k < m / 64) => show (Hdr.blk X.all k).length = 64 by
    have hr : X.right = true ∧ m = X.all.length := hm.resolve_right (by rintro ⟨-, e⟩; omega)
    exact Hdr.blk_len _ _ (by omega))
  have HK := Lib.hid hK
  have HB := Lib.hid hB
  have HE := Lib.hid hE
  have HY := Lib.hid hY
  have HJ := Lib.hid (fun W' h => h1 W0 W' hj h)
  obtain ⟨q, hq⟩ : ∃ q, m / 64 = q := ⟨_, rfl⟩
  rw [hq] at HRD HBL HY HJ
  have hq1 : (m : Int) / 64 = (q : Int) := by omega
  have hq2 : (m : Int).tdiv 64 = (q : Int) := by rw [Int.tdiv_eq_ediv_of_nonneg (by omega)]; omega
  have hq3 : q ≤ 8192 := by omega
  have hw1 : RowKit.wrap64 ((q : Int) - 1) = (q : Int) - 1 := by unfold RowKit.wrap64; omega
  have hw2 : RowKit.wrap64 (((q : Int) - 1) * 64) = ((q : Int) - 1) * 64 := by unfold RowKit.wrap64; omega
  clear hK hB hE hY h0 h1 hj hm hN hL hlm hq
  refine callsIn_of_wp Tryd.func58 rfl trivial ?_ rfl
  simp only [Tryd.ntmps58, List.size_toArray, List.length_cons, List.length_nil, Nat.reduceAdd, Nat.reduceSub, Array.replicate_succ, Array.replicate_zero, List.push_toArray, List.append_toArray, List.nil_append, List.cons_append]
  refine wpIn_wide.2 ?_
  obtain ⟨f0, f1, f2, f3, f4⟩ := f
  go_wp2_with fail
  refine hln.out.mono ?_
  rintro e W1 ⟨rfl, hb1⟩
  have HJ1 := Lib.hid (HJ.out W1 hb1)
  clear f0 f1 f2 f3 f4 hln HJ hb1
  go_upto_block 0 with fail
  refine (wpIn_wide (n := n)).1 ?_
  gi_wp2_with fail
  gi_loopw [3] (fun v wr => ∃ (k : Nat) (z : Int), v = .int .i64 z ∧ Hid (z = 64 * (k : Int) - 64) ∧ k ≤ q ∧ Hid (J k wr)) (fun v _ => (intOf v + 64).toNat)
  case atStart => exact ⟨q, _, by first | rfl | simp, Lib.hid (by omega), Nat.le_refl _, HJ1⟩
  case round =>
    obtain ⟨k, z, rfl, HZ, hk, HJk⟩ := hrel
    clear HJ1 hq1 hq2 hw1 hw2
    cases k with
    | zero =>
      have hx := Lib.hid (HE.out _ HJk.out)
      have hz : ¬ (0 ≤ z) := by have := HZ.out; omega
      clear HK HB HE HY HRD HBL HJk
      gi_wp2
      go_end0
      exact ⟨⟨_, rfl⟩, hx.out⟩
    | succ k =>
      obtain ⟨at', hat⟩ : ∃ at', 64 * k = at' := ⟨_, rfl⟩
      obtain rfl : z = (at' : Int) := by have := HZ.out; omega
      have hrd := Lib.hid (HRD.out wr k HJk.out (by omega))
      have hyl := Lib.hid (fun W (h : J (k + 1) W) => HY.out k W h (by omega))
      have hbl := Lib.hid (HBL.out k (by omega))
      have HBB := Lib.hid (show between X.all (64 * k) (64 * k + 64) = Hdr.blk X.all k from blk_between X.all k)
      rw [hat] at hrd hyl HBB
      have hat5 : at' ≤ 524288 := by omega
      have HAT := Lib.hid hat
      obtain ⟨⟨f0, f1, f2, f3, f4⟩, -⟩ := HK.out _ _ HJk.out
      simp only [FileT.agg, PcT.val] at hrd
      clear hat HRD HBL HY HK HE
      gi_wp2_with fail
      refine ⟨trivial, (callsIn_wide.2 hrd.out).mono ?_⟩
      rintro e W2 ⟨p, rfl, hpl, hpo, hb2, -⟩
      have HJ2 := Lib.hid (HB.out _ _ _ HJk.out hb2)
      clear f0 f1 f2 f3 f4 hrd HJk HB hb2
      obtain ⟨pA, pn, pc, pl⟩ := p
      simp only at hpl hpo
      rw [HBB.out] at hpl
      subst hpl
      obtain rfl : pn = 64 := by rw [← hbl.out]; exact hpo.here.len.symm
      obtain ⟨b, off, rfl, hbB, -⟩ := hpo.here.2 (show 0 < 64 by omega)
      have hbytes := hpo.here
      have hcap := hpo.fits
      obtain ⟨fn, tmps, assign, body, hy, hR⟩ := hyl.out W2 HJ2.out
      simp only at hbytes hcap
      clear hpo hyl HBB
      have harr := run_arrayAt (P := Tryd.prog) (w := W2) 25 5 64 (some ⟨b, off, none⟩) 64 pc Tryd.underlying25 (Nat.le_refl _)
      gi_wp2_with (refine wpListIn_loadRow (by rfl) (.tmp 27) rfl rfl hbytes (by omega) Tryd.underlying25 (info64 hbl.out) ?_)
      refine hR.mono ?_
      rintro e W3 ⟨gg, rfl, hyes, hno⟩
      clear hy hR
      cases gg
      · have hx := Lib.hid (hno rfl)
        clear hno hyes
        gi_wp2
        refine bodyPost_ret (results_none rfl _ _ _) rfl ?_
        exact ⟨⟨_, rfl⟩, hx.out⟩
      · have HJn := Lib.hid (hyes rfl)
        clear hno hyes
        gi_wp2
        go_roundw
        case rel => exact ⟨k, _, by first | rfl | go_num, Lib.hid (by have := HAT.out; omega), by omega, HJn⟩
        case measure => simp [intOf]; omega
end Go.Proofs.YtlknmpnjhbdlhaaDoor
