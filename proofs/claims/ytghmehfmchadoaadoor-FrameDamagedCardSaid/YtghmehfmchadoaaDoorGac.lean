import Derived.Test.YtghmehfmchadoaaDoorGaa
import Derived.RangeFuncBox
import Derived.Shelf.Abstract
import Derived.RangeFuncNested
import Derived.Test.YtghmehfmchadoaaDoorGab
import Derived.Deep.RegionHeld3
import Derived.ArgAppend
/-
  Slices of whole numbers. No program in sight.
-/
namespace Go.Proofs.YtghmehfmchadoaaDoor
open Go.RowKit

/-- A whole number as a cell holds it. -/
def iv (x : Int) : Value := .int .i64 x
def nats (l : List Nat) : List Int := l.map fun (c : Nat) => (c : Int)
theorem nats_len (l : List Nat) : (nats l).length = l.length := by simp [nats]
theorem nats_snoc (l : List Nat) (c : Nat) : nats (l ++ [c]) = nats l ++ [(c : Int)] := by simp [nats]
theorem nats_inj : ∀ {l m : List Nat}, nats l = nats m → l = m
  | [], [], _ => rfl
  | [], _ :: _, h => by simp [nats] at h
  | _ :: _, [], h => by simp [nats] at h
  | a :: l, b :: m, h => by
    simp only [nats, List.map_cons, List.cons.injEq] at h
    obtain ⟨h1, h2⟩ := h
    rw [show a = b by omega, nats_inj (l := l) (m := m) h2]
theorem iv_one (l : List Int) : ∀ u ∈ l.map iv, u.oneCell' = true := by
  intro u hu
  obtain ⟨x, _, rfl⟩ := List.mem_map.1 hu
  rfl
def Ints (w : World) (B : Nat) (A : Option Addr) (n : Nat) (l : List Int) : Prop := Shows w B 1 A n (l.map iv)
section
variable {w w' : World} {B B' n : Nat} {A : Option Addr} {l : List Int}
theorem Ints.len (h : Ints w B A n l) : l.length = n := by have := h.1; simpa using this
theorem Ints.more (h : Ints w B A n l) (hB : B ≤ B') : Ints w B' A n l := Shows.more h hB
theorem Ints.below (h : Ints w B A n l) (hb : Below B w w') : Ints w' B A n l := Shows.below h hb
theorem Ints.drewN (h : Ints w B A n l) (k : Nat) : Ints (w.drewN k) B A n l := h
theorem Ints.drew (h : Ints w B A n l) : Ints w.drew B A n l := h
theorem Ints.alloc (h : Ints w B A n l) (hB : B ≤ w.heap.size) (o : Obj) : Ints (w.alloc o) B A n l := Shows.alloc h hB o
theorem Ints.first (h : Ints w B A n l) {k : Nat} (hk : k ≤ n) : Ints w B A k (l.take k) := by
  have := Shows.first h hk
  unfold Ints
  simpa [List.map_take] using this
theorem Ints.cell (h : Ints w B A n l) {k : Nat} (hk : k < n) : ∃ b off, A = some ⟨b, off, none⟩ ∧ b < B ∧ w.cell? ⟨b, off + k, none⟩ = some (.int .i64 (l.getD k 0)) := by
  obtain ⟨b, off, e, hb, hc⟩ := h.2 (by omega)
  refine ⟨b, off, e, hb, hc k _ ?_⟩
  have hl := h.len
  rw [List.getElem?_map, List.getElem?_eq_getElem (by omega), List.getD_eq_getElem?_getD, List.getElem?_eq_getElem (by omega)]
  rfl
theorem Ints.own {base : Nat} {e : TypeId} {c : Nat} (h : w.ownsRow base e 1 (.slice A n c) n (l.map iv)) : Ints w w.heap.size A n l := Shows.own h
theorem Ints.zero (A : Option Addr) : Ints w B A 0 [] := Shows.zero A
end
theorem ints_new (w : World) (l : List Int) (C : Array Value) (t : TypeId) (fr : Nat × Nat) (hC : C.toList = l.map iv) : Ints (w.alloc (.cells C t fr)) (w.heap.size + 1) (some ⟨w.heap.size, 0, none⟩) l.length l :=
  ⟨by simp, fun _ => ⟨w.heap.size, 0, rfl, by omega, fun j u hu => by
    rw [cell_of_row _ _ _ _ _ _ (heap_alloc_new w _), Nat.zero_add]
    rw [← hC] at hu
    simpa using hu⟩⟩
theorem takeI_snoc (l : List Int) (k : Nat) (h : k < l.length) : l.take (k + 1) = l.take k ++ [l.getD k 0] := by
  rw [List.take_succ_eq_append_getElem h, List.getD_eq_getElem?_getD, List.getElem?_eq_getElem h]
  rfl
theorem boxed_below {W W' : World} {B : Nat} {t : TypeId} {v : Value} (h : Boxed W B t v) (hb : Below W.heap.size W W') : Boxed W' B t v := (hb.block B h.lt).trans h
end Go.Proofs.YtghmehfmchadoaaDoor
/-
  A range over a function whose iterator writes a variable of its own: the statement opened into the iterator's one call, and a round into the body's walk; what the iterator may touch is the caller's to say. No program in sight.
-/
namespace Go.Proofs.YtghmehfmchadoaaDoor
open Go.RowKit Go.Shelf

variable {F : Fence} {n : Nat} {P : Program}

/-- The record that the statement lays. -/
def recOf (fn : FuncId) (tmps : Array Value) (ps : Array Tmp) (assign body : Code) (D : Nat) (st : LoopState) (pe : Option Code) : Loop :=
  { state := st, pending := pe, fn := fn, tmps := tmps, params := ps, assign := assign, body := body, defers := D }
/-- What follows the iterator's return, by the jump that waits. -/
def goesOn (F : Fence) (n : Nat) (P : Program) (Q : Exit → Act → World → Prop) (a : Act) (W : World) : Option Code → Prop
  | none => Q .normal a W
  | some c => c.wpIn F n P Q a W

theorem range_open {g : Operand} {ps : Array Tmp} {assign body : Code} {Q : Exit → Act → World → Prop} {a : Act} {w : World} {gf : Nat} {lb : Array Value}
    (hro : F.round = none) (h1 : 1 ≤ n) (hg : a.eval g = .func (.func gf) #[] lb) (hFg : F.fn gf) (eg : ∀ args w, (callFunc gf args).run P w = .ok (.enter gf args) w)
    (hcall : ∀ fn, F.fn fn → CallsIn F (n - 1) P gf (#[.func (.yield (w.heap.size + 1)) #[] #[]] ++ lb) ((w.alloc (.deferred (some []))).alloc (.loop (recOf fn a.tmps ps assign body w.heap.size .ready none)))
      fun e B => (∃ v, e = .returned v) ∧ ∃ st pe, B.heap[w.heap.size + 1]? = some (.loop (recOf fn a.tmps ps assign body w.heap.size st pe)) ∧ st ≠ .busy ∧
        goesOn F n P Q { a with defers := { target := .collected w.heap.size, args := #[] } :: a.defers } (B.putObj (w.heap.size + 1) (.loop (recOf fn a.tmps ps assign body w.heap.size .exhausted pe))) pe) :
    (Code.rangeFunc g ps assign body).wpIn F n P Q a w := by
  refine wpIn_rangeFunc fun fn hfn => ?_
  rw [hro]
  refine ⟨_, _, _, { target := .fn (.func gf) lb, args := #[.func (.yield (w.heap.size + 1)) #[] #[]] }, (w.alloc (.deferred (some []))).alloc (.loop (recOf fn a.tmps ps assign body w.heap.size .ready none)), gf, _, _, run_enterLoop_outer fn a.tmps ps assign body, ?_, ?_, ?_, fun _ => h1, (hcall fn hfn).mono ?_⟩
  · simp only [resolve, hg]
    simp [go_sem, recOf]
  · intro f' hf'
    simp [Target.leads] at hf'
    subst hf'
    exact hFg
  · simp [invoke, go_sem, eg]
  · rintro e B ⟨⟨v, rfl⟩, st, pe, hl, hb, hgo⟩
    refine ⟨pe, _, run_endLoop hl hb, ?_⟩
    cases pe <;> exact hgo

/-- How a round may be left, and what then holds. -/
def roundEnd (l : Nat) (r : Option Code → LoopState → Loop) (R : Ending → World → Prop) : Exit → Act → World → Prop
  | .normal, _, W => W.heap[l]? = some (.loop (r none .busy)) ∧ R (.returned (.bool true)) (W.putObj l (.loop (r none .ready)))
  | .exit id, _, W => W.heap[l]? = some (.loop (r none .busy)) ∧ R (.returned (.bool false)) (W.putObj l (.loop (r (some (.exit id)) .done)))
  | _, _, _ => False
theorem round_open {m l : Nat} {fn : FuncId} {tmps : Array Value} {ps : Array Tmp} {assign body : Code} {D : Nat} {args : Array Value} {W : World} {R : Ending → World → Prop} (hF : F.fn fn)
    (hl : W.heap[l]? = some (.loop (recOf fn tmps ps assign body D .ready none))) (hs : args.size = ps.size)
    (h : assign.wpIn (F.inRound l) m P (Exit.then (fun a' W2 => W2.heap[l]? = some (.loop (recOf fn tmps ps assign body D .ready none)) ∧
        body.wpIn (F.inRound l) m P (roundEnd l (fun pe st => recOf fn tmps ps assign body D st pe) R) a' (W2.putObj l (.loop (recOf fn tmps ps assign body D .busy none)))) (fun _ _ _ => False))
      { tmps := (ps.zip args).foldl (fun t (p, v) => t.setIfInBounds p v) tmps, defers := [] } W) :
    YieldAt F m P l args W R := by
  refine ⟨fn, _, assign, body, run_yield hl hs, roundIn_of_wpIn hF (wpIn_mono h ?_)⟩
  intro e a' W2 he
  cases e with
  | normal =>
    obtain ⟨h2, hb⟩ := he
    refine ⟨_, run_beginRound h2 rfl, wpIn_mono hb ?_⟩
    intro e3 a3 W3 h3
    cases e3 with
    | normal => exact ⟨_, _, run_endRound none h3.1, h3.2⟩
    | exit id => exact ⟨_, _, run_endRound (some (.exit id)) h3.1, h3.2⟩
    | ret => exact h3.elim
    | goto t => exact h3.elim
    | panic ch => exact h3.elim
    | outgrown => exact h3.elim
  | ret => exact he.elim
  | exit id => exact he.elim
  | goto t => exact he.elim
  | panic ch => exact he.elim
  | outgrown => exact he.elim
end Go.Proofs.YtghmehfmchadoaaDoor
/-
  A range over a function whose body may return: a round opened, as in Rf, with that way out too. No program in sight.
-/
namespace Go.Proofs.YtghmehfmchadoaaDoor
open Go.RowKit Go.Shelf

variable {F : Fence} {n : Nat} {P : Program}

/-- How a round may be left, and what then holds. -/
def roundEndR (l : Nat) (r : Option Code → LoopState → Loop) (R : Ending → World → Prop) : Exit → Act → World → Prop
  | .normal, _, W => W.heap[l]? = some (.loop (r none .busy)) ∧ R (.returned (.bool true)) (W.putObj l (.loop (r none .ready)))
  | .exit id, _, W => W.heap[l]? = some (.loop (r none .busy)) ∧ R (.returned (.bool false)) (W.putObj l (.loop (r (some (.exit id)) .done)))
  | .ret, _, W => W.heap[l]? = some (.loop (r none .busy)) ∧ R (.returned (.bool false)) (W.putObj l (.loop (r (some .ret) .done)))
  | _, _, _ => False
theorem round_openR {m l : Nat} {fn : FuncId} {tmps : Array Value} {ps : Array Tmp} {assign body : Code} {D : Nat} {args : Array Value} {W : World} {R : Ending → World → Prop} (hF : F.fn fn)
    (hl : W.heap[l]? = some (.loop (recOf fn tmps ps assign body D .ready none))) (hs : args.size = ps.size)
    (h : assign.wpIn (F.inRound l) m P (Exit.then (fun a' W2 => W2.heap[l]? = some (.loop (recOf fn tmps ps assign body D .ready none)) ∧
        body.wpIn (F.inRound l) m P (roundEndR l (fun pe st => recOf fn tmps ps assign body D st pe) R) a' (W2.putObj l (.loop (recOf fn tmps ps assign body D .busy none)))) (fun _ _ _ => False))
      { tmps := (ps.zip args).foldl (fun t (p, v) => t.setIfInBounds p v) tmps, defers := [] } W) :
    YieldAt F m P l args W R := by
  refine ⟨fn, _, assign, body, run_yield hl hs, roundIn_of_wpIn hF (wpIn_mono h ?_)⟩
  intro e a' W2 he
  cases e with
  | normal =>
    obtain ⟨h2, hb⟩ := he
    refine ⟨_, run_beginRound h2 rfl, wpIn_mono hb ?_⟩
    intro e3 a3 W3 h3
    cases e3 with
    | normal => exact ⟨_, _, run_endRound none h3.1, h3.2⟩
    | exit id => exact ⟨_, _, run_endRound (some (.exit id)) h3.1, h3.2⟩
    | ret => exact ⟨_, _, run_endRound (some .ret) h3.1, h3.2⟩
    | goto t => exact h3.elim
    | panic ch => exact h3.elim
    | outgrown => exact h3.elim
  | ret => exact he.elim
  | exit id => exact he.elim
  | goto t => exact he.elim
  | panic ch => exact he.elim
  | outgrown => exact he.elim
end Go.Proofs.YtghmehfmchadoaaDoor
/-
  Layer 10: how long a file is.
-/
namespace Go.Proofs.YtghmehfmchadoaaDoor
open Go.RowKit Go.Shelf
attribute [local go_sem] Oper.semAt_some
set_option linter.unusedVariables false

theorem lenGo_drop : ∀ (j : Nat) (L : List PcT) (n : Nat), n + sumN (L.take j) ≤ 524288 → lenGo L n = lenGo (L.drop j) (n + sumN (L.take j))
  | 0, L, n, h => by simp [sumN]
  | j + 1, [], n, h => by simp [sumN]
  | j + 1, p :: L, n, h => by
    have e : sumN ((p :: L).take (j + 1)) = p.n + sumN (L.take j) := by simp [sumN]
    rw [e] at h ⊢
    rw [List.drop_succ_cons, show lenGo (p :: L) n = lenGo L (n + p.n) by rw [lenGo, if_neg (by omega)], lenGo_drop j L (n + p.n) (by omega)]
    congr 1
    omega
theorem sumQ_succ {X : FileT} {k : Nat} {p : PcT} (h : X.Q[k]? = some p) : sumN (X.Q.take (k + 1)) = sumN (X.Q.take k) + p.n := by
  unfold sumN
  rw [List.take_add_one, h]
  simp
theorem long_over {X : FileT} {k : Nat} {p : PcT} (h : X.Q[k]? = some p) (h1 : sumN (X.Q.take k) ≤ 524288) (h2 : 524288 < sumN (X.Q.take k) + p.n) : X.long = sumN (X.Q.take k) + p.n := by
  unfold FileT.long
  cases k with
  | zero =>
    have : p = X.F := by unfold FileT.Q at h; simpa using h.symm
    subst this
    have e : sumN (X.Q.take 0) = 0 := rfl
    rw [e] at h2 ⊢
    rw [lenGo_over _ _ (by omega), Nat.zero_add]
  | succ j =>
    have hp : X.L[j]? = some p := by unfold FileT.Q at h; simpa using h
    have e : sumN (X.Q.take (j + 1)) = X.F.n + sumN (X.L.take j) := by unfold FileT.Q sumN; simp
    rw [e] at h1 h2 ⊢
    obtain ⟨hj, he⟩ := List.getElem?_eq_some_iff.1 hp
    rw [lenGo_drop j X.L X.F.n h1, List.drop_eq_getElem_cons hj, he, lenGo, if_neg (by omega), lenGo_over _ _ h2]
theorem long_all {X : FileT} {m : Nat} (hm : X.L.length = m) (h : sumN (X.Q.take (m + 1)) ≤ 524288) : X.long = sumN (X.Q.take (m + 1)) := by
  have e : sumN (X.Q.take (m + 1)) = X.F.n + sumN X.L := by
    unfold FileT.Q sumN
    rw [List.take_succ_cons, List.take_of_length_le (by omega)]
    simp
  rw [e] at h ⊢
  exact (lenGo_is X.L X.F.n).1 h
/-- The memory between two pieces: n blocks lay when length began. -/
structure LJ (n : Nat) (w : World) (X : FileT) (lp : Obj) (r e : Nat) (W : World) : Prop where
  b1 : Boxed W (n + 1) 3 (.int .i64 (r : Nat))
  b2 : Boxed W (n + 2) 3 (.int .i64 (e : Nat))
  f0 : W.cell? ⟨n + 3, 0, none⟩ = some (.slice X.F.A X.F.n X.F.c)
  f1 : W.cell? ⟨n + 3, 1, none⟩ = some (.slice X.lA X.ln X.lc)
  d : W.heap[n + 4]? = some (.deferred (some []))
  r : W.heap[n + 5]? = some lp
  bel : Below n w W
section
variable {n : Nat} {w : World} {X : FileT} {lp : Obj} {r e : Nat} {W W' : World}
theorem LJ.lt (h : LJ n w X lp r e W) : n + 5 < W.heap.size := (Array.getElem?_eq_some_iff.1 h.r).1
theorem LJ.turn (h : LJ n w X lp r e W) (hl : lp.isCells = false) (hw : lp.isWalk = false) (lp' : Obj) : LJ n w X lp' r e (W.putObj (n + 5) lp') := by
  have o : ∀ {k : Nat} {x : Obj}, W.heap[k]? = some x → k ≠ n + 5 → (W.putObj (n + 5) lp').heap[k]? = some x := fun hk hne => (World.putObj_heap_other hne).trans hk
  have c : ∀ {i : Nat} {x : Value}, W.cell? ⟨n + 3, i, none⟩ = some x → (W.putObj (n + 5) lp').cell? ⟨n + 3, i, none⟩ = some x := fun hk => (World.cell?_of_block (World.putObj_heap_other (by show n + 3 ≠ n + 5; omega))).trans hk
  have hlt := h.lt
  exact ⟨o h.b1 (by omega), o h.b2 (by omega), c h.f0, c h.f1, o h.d (by omega), World.putObj_heap_same hlt, h.bel.grown (grownBy_putObj' W (n + 5) lp') (by omega) (fun k e => by cases e; omega)⟩
theorem LJ.setE (h : LJ n w X lp r e W) (e' : Nat) : LJ n w X lp r e' (W.setCell ⟨n + 2, 0, none⟩ (.int .i64 (e' : Nat))) := by
  have f : ∀ {k : Nat} {o : Obj}, W.heap[k]? = some o → k ≠ n + 2 → (W.setCell ⟨n + 2, 0, none⟩ (.int .i64 (e' : Nat))).heap[k]? = some o := fun hX hne => (Below.heap_setCell W _ _ _ hne).trans hX
  have c : ∀ {i : Nat} {x : Value}, W.cell? ⟨n + 3, i, none⟩ = some x → (W.setCell ⟨n + 2, 0, none⟩ (.int .i64 (e' : Nat))).cell? ⟨n + 3, i, none⟩ = some x := fun hk => (World.cell?_of_block (Below.heap_setCell W _ _ _ (by show n + 3 ≠ n + 2; omega))).trans hk
  exact ⟨f h.b1 (by omega), Boxed.set _ h.b2, c h.f0, c h.f1, f h.d (by omega), f h.r (by omega), h.bel.setCell (by show n ≤ n + 2; omega) _⟩
theorem LJ.setR (h : LJ n w X lp r e W) (r' : Nat) : LJ n w X lp r' e (W.setCell ⟨n + 1, 0, none⟩ (.int .i64 (r' : Nat))) := by
  have f : ∀ {k : Nat} {o : Obj}, W.heap[k]? = some o → k ≠ n + 1 → (W.setCell ⟨n + 1, 0, none⟩ (.int .i64 (r' : Nat))).heap[k]? = some o := fun hX hne => (Below.heap_setCell W _ _ _ hne).trans hX
  have c : ∀ {i : Nat} {x : Value}, W.cell? ⟨n + 3, i, none⟩ = some x → (W.setCell ⟨n + 1, 0, none⟩ (.int .i64 (r' : Nat))).cell? ⟨n + 3, i, none⟩ = some x := fun hk => (World.cell?_of_block (Below.heap_setCell W _ _ _ (by show n + 3 ≠ n + 1; omega))).trans hk
  exact ⟨Boxed.set _ h.b1, f h.b2 (by omega), c h.f0, c h.f1, f h.d (by omega), f h.r (by omega), h.bel.setCell (by show n ≤ n + 1; omega) _⟩
end
set_option maxRecDepth 100000 in
set_option maxHeartbeats 4000000 in
theorem length_any (X : FileT) (B : Nat) (w : World) (hL : LieF w B X) (hB : B ≤ w.heap.size) (hN : ∀ p ∈ X.Q, p.n ≤ 1048576) :
    Calls Tryd.prog 35 #[X.agg] w fun e w' => e = .returned (.int .i64 (X.long : Nat)) ∧ Below w.heap.size w w' := by
  simp only [FileT.agg, PcT.val]
  refine (callsIn_wide (n := 6)).1 ?_
  refine callsIn_of_wp_marks Tryd.func35 rfl trivial ?_ rfl
  simp only [Tryd.ntmps35, List.size_toArray, List.length_cons, List.length_nil, Nat.reduceAdd, Nat.reduceSub, Array.replicate_succ, Array.replicate_zero, List.push_toArray, List.append_toArray, List.nil_append, List.cons_append]
  refine wpIn_wide.2 ?_
  go_wp2_with fail
  refine (pieces_any _ _ _ _ _ _ _ _ _ _).mono ?_
  rintro e W1 ⟨rfl, hW1⟩
  go_wp2
  refine (wpIn_wide (n := 6)).1 ?_
  refine range_open rfl (by omega) (gf := 67) (lb := #[.pointer (some ⟨w.heap.size + 1 + 1 + 1, 0, none⟩)]) rfl trivial (enters_of Tryd.func67 (by kernel_rfl) rfl) ?_
  have hsz : W1.heap.size = w.heap.size + 4 := by rw [← hW1]; simp
  have j1 : Boxed W1 (w.heap.size + 1) 3 (.int .i64 0) := by
    rw [← hW1]
    have h := Boxed.new (w.alloc (.cells #[.slice X.F.A X.F.n X.F.c, .slice X.lA X.ln X.lc, .int .i64 X.fuse, .int .i64 X.fault, .bool X.off] 25)) 3 (.int .i64 0)
    rw [World.size_alloc] at h
    exact (h.alloc _).alloc _
  have j2 : Boxed W1 (w.heap.size + 2) 3 (.int .i64 0) := by
    rw [← hW1]
    have h := Boxed.new ((w.alloc (.cells #[.slice X.F.A X.F.n X.F.c, .slice X.lA X.ln X.lc, .int .i64 X.fuse, .int .i64 X.fault, .bool X.off] 25)).alloc (.cells #[.int .i64 0] 3)) 3 (.int .i64 0)
    rw [World.size_alloc, World.size_alloc] at h
    exact h.alloc _
  have g0 : W1.cell? ⟨w.heap.size + 3, 0, none⟩ = some (.slice X.F.A X.F.n X.F.c) := by rw [← hW1]; simp [go_sem]
  have g1 : W1.cell? ⟨w.heap.size + 3, 1, none⟩ = some (.slice X.lA X.ln X.lc) := by rw [← hW1]; simp [go_sem]
  have hb1 : Below w.heap.size w W1 := by rw [← hW1]; exact bel_alloc (bel_alloc (bel_alloc (bel_alloc (Below.refl _ _) _) _) _) _
  clear hW1
  rw [hsz]
  intro fn hfn
  generalize hrec : recOf fn _ _ _ _ _ = rec
  have J0 : LJ w.heap.size w X (.loop (rec .ready none)) 0 0 ((W1.alloc (.deferred (some []))).alloc (.loop (rec .ready none))) := by
    refine ⟨(j1.alloc _).alloc _, (j2.alloc _).alloc _, cell_keep (cell_keep g0 _) _, cell_keep (cell_keep g1 _) _, ?_, ?_, bel_alloc (bel_alloc hb1 _) _⟩
    · have h := World.alloc_heap_new W1 (.deferred (some []))
      rw [hsz] at h
      exact (Below.heap_alloc _ _ _ (by simp [hsz])).trans h
    · have h := World.alloc_heap_new (W1.alloc (.deferred (some []))) (.loop (rec .ready none))
      rw [World.size_alloc, hsz] at h
      exact h
  have hcall := pieces1_in 5 (by omega) (w.heap.size + 5) (w.heap.size + 3) B X (fun k W => LJ w.heap.size w X (.loop (rec .ready none)) 0 (sumN (X.Q.take k)) W ∧ sumN (X.Q.take k) ≤ 524288) (fun W => ∃ e, LJ w.heap.size w X (.loop (rec .done (some .ret))) e e W ∧ X.long = e) _ (Nat.le_trans hL.fits hL.most)
    (fun k W h => ⟨h.1.f0, h.1.f1, hL.row.below (h.1.bel.mono hB)⟩) ?hY ⟨J0, by simp [sumN]⟩
  case hY =>
    rintro k p W ⟨hr, hbnd⟩ hp
    have hl5 := hr.r
    rw [← hrec] at hl5
    refine round_openR hfn hl5 rfl ?_
    simp only [hrec]
    have hpn := hN p (List.mem_of_getElem? hp)
    have HQ := Lib.hid (sumQ_succ hp)
    have HV := Lib.hid (long_over hp hbnd)
    generalize sumN (X.Q.take k) = m at *
    clear hl5 J0 j1 j2 g0 g1 hL hN hp
    gi_wp2
    refine ⟨hr.r, ?_⟩
    have hr3 := hr.turn rfl rfl (.loop (rec .busy none))
    generalize W.putObj (w.heap.size + 5) (.loop (rec .busy none)) = W3 at *
    have c1 : W3.cell? ⟨w.heap.size + 1, 0, none⟩ = some (.int .i64 0) := hr3.b1.cell
    have c1f : W3.frozen? ⟨w.heap.size + 1, 0, none⟩ = false := hr3.b1.frozen
    have c2 : W3.cell? ⟨w.heap.size + 1 + 1, 0, none⟩ = some (.int .i64 (m : Nat)) := hr3.b2.cell
    have c2f : W3.frozen? ⟨w.heap.size + 1 + 1, 0, none⟩ = false := hr3.b2.frozen
    have hr4 := hr3.setE (m + p.n)
    have hs1 : IntKind.i64.wrap ((m : Int) + (p.n : Int)) = (m : Int) + (p.n : Int) := by rw [IntKind.wrap_i64]; omega
    have hs2 : wrap64 ((m : Int) + (p.n : Int)) = (m : Int) + (p.n : Int) := by unfold wrap64; omega
    have hcast : ((m + p.n : Nat) : Int) = (m : Int) + (p.n : Int) := by omega
    by_cases ho : 524288 < m + p.n
    · have hgt : ((524288 : Int) < (m : Int) + (p.n : Int)) = True := by simp; omega
      have hr5 := hr4.setR (m + p.n)
      have HX := Lib.hid (HV.out ho)
      rw [hcast] at hr4 hr5
      clear ho hbnd hpn HQ HV hcast hr hr3
      gi_wp2
      exact ⟨hr5.r, .inr ⟨rfl, by rw [HX.out]; exact hr5.turn rfl rfl _⟩⟩
    · have hgt : ((524288 : Int) < (m : Int) + (p.n : Int)) = False := by simp; omega
      have hle : m + p.n ≤ 524288 := by omega
      have HL := Lib.hid hle
      rw [hcast] at hr4
      clear ho hbnd hpn HV hcast hr hr3 hle
      gi_wp2
      exact ⟨hr4.r, .inl ⟨rfl, by rw [HQ.out]; exact hr4.turn rfl rfl _, by rw [HQ.out]; exact HL.out⟩⟩
  refine hcall.mono ?_
  rintro e B1 ⟨hv, ⟨hr, hbd⟩ | ⟨m, hr, hlong⟩⟩
  · have HR := Lib.hid (long_all hL.len hbd)
    clear hcall J0 j1 j2 g0 g1 hrec hfn hb1 hL hN
    generalize sumN (X.Q.take (X.ln + 1)) = m at *
    refine ⟨hv, .ready, none, hr.r, by simp, ?_⟩
    have hr5 := hr.turn rfl rfl (.loop (rec .exhausted none))
    generalize B1.putObj (w.heap.size + 5) (.loop (rec .exhausted none)) = W5 at *
    have hr6 := hr5.setR m
    have hK := hr6.d
    have hbw := hr6.bel
    have c1 : W5.cell? ⟨w.heap.size + 1, 0, none⟩ = some (.int .i64 0) := hr5.b1.cell
    have c1f : W5.frozen? ⟨w.heap.size + 1, 0, none⟩ = false := hr5.b1.frozen
    have c2 : W5.cell? ⟨w.heap.size + 1 + 1, 0, none⟩ = some (.int .i64 (m : Nat)) := hr5.b2.cell
    have c9 : ((W5.setCell ⟨w.heap.size + 1, 0, none⟩ (.int .i64 (m : Nat))).putObj (w.heap.size + 4) (.deferred none)).cell? ⟨w.heap.size + 1, 0, none⟩ = some (.int .i64 (m : Nat)) := (World.cell?_of_block (World.putObj_heap_other (by show w.heap.size + 1 ≠ w.heap.size + 4; omega))).trans hr6.b1.cell
    have C9 := Lib.hid c9
    clear hr hv hbd hr5 hr6 c9
    unfold goesOn
    dsimp only
    go_wp2
    refine ⟨by simp, .inl ⟨_, _, rfl, run_takeDeferred hK, ?_⟩⟩
    refine ⟨_, ?_, by rw [HR.out], hbw.trans (belowK_b (w := w) (Nat.le_refl _) _ (w.heap.size + 4) _ _ (by omega) hK rfl rfl)⟩
    have c9 := C9.out
    clear C9 HR hbw hK
    simp [results, Tryd.results35, go_sem, *]
  · have HR := Lib.hid hlong
    clear hcall J0 j1 j2 g0 g1 hrec hfn hb1 hL hN
    refine ⟨hv, .done, _, hr.r, by simp, ?_⟩
    have hr5 := hr.turn rfl rfl (.loop (rec .exhausted (some .ret)))
    generalize B1.putObj (w.heap.size + 5) (.loop (rec .exhausted (some .ret))) = W5 at *
    have hK := hr5.d
    have hbw := hr5.bel
    have C9 := Lib.hid (show (W5.putObj (w.heap.size + 4) (.deferred none)).cell? ⟨w.heap.size + 1, 0, none⟩ = some (.int .i64 (m : Nat)) from (World.cell?_of_block (World.putObj_heap_other (by show w.heap.size + 1 ≠ w.heap.size + 4; omega))).trans hr5.b1.cell)
    clear hr hr5 hv hlong
    unfold goesOn
    refine wpIn_wide.2 ?_
    go_wp2
    refine ⟨by simp, .inl ⟨_, _, rfl, run_takeDeferred hK, ?_⟩⟩
    refine ⟨_, ?_, by rw [HR.out], hbw.trans (belowK_b (w := w) (Nat.le_refl _) _ (w.heap.size + 4) _ _ (by omega) hK rfl rfl)⟩
    have c9 := C9.out
    clear C9 HR hbw hK
    simp [results, Tryd.results35, go_sem, *]
end Go.Proofs.YtghmehfmchadoaaDoor
/-
  Layer 10: the reference's Long; which files may be.
-/
namespace Go.Proofs.YtghmehfmchadoaaDoor
open Go.RowKit
set_option linter.unusedVariables false

/-- A file in a box of its own. -/
def FBox (W : World) (g : Nat) (X : FileT) : Prop :=
  W.cell? ⟨g, 0, none⟩ = some (.slice X.F.A X.F.n X.F.c) ∧ W.cell? ⟨g, 1, none⟩ = some (.slice X.lA X.ln X.lc) ∧ W.cell? ⟨g, 2, none⟩ = some (.int .i64 X.fuse) ∧ W.cell? ⟨g, 3, none⟩ = some (.int .i64 X.fault) ∧ W.cell? ⟨g, 4, none⟩ = some (.bool X.off)
theorem FBox.later {W W' : World} {g : Nat} {X : FileT} (h : FBox W g X) (hb : Below W.heap.size W W') : FBox W' g X :=
  ⟨kept_later hb h.1, kept_later hb h.2.1, kept_later hb h.2.2.1, kept_later hb h.2.2.2.1, kept_later hb h.2.2.2.2⟩
theorem FBox.new (w : World) (X : FileT) (t : TypeId) : FBox (w.alloc (.cells #[.slice X.F.A X.F.n X.F.c, .slice X.lA X.ln X.lc, .int .i64 X.fuse, .int .i64 X.fault, .bool X.off] t)) w.heap.size X :=
  ⟨by simp [go_sem], by simp [go_sem], by simp [go_sem], by simp [go_sem], by simp [go_sem]⟩
end Go.Proofs.YtghmehfmchadoaaDoor
/-
  Layer 10: Check, and the reference's Right.
-/
namespace Go.Proofs.YtghmehfmchadoaaDoor
open Go.RowKit
set_option linter.unusedVariables false

def hollowB (L : List PcT) : Bool := L.any fun p => p.n == 0
theorem hollow_yes {L : List PcT} {k : Nat} {p : PcT} (h : L[k]? = some p) (h0 : p.n = 0) : hollowB L = true := by
  unfold hollowB
  rw [List.any_eq_true]
  exact ⟨p, List.mem_of_getElem? h, by simp [h0]⟩
theorem hollow_no {L : List PcT} (h : ∀ k p, k < L.length → L[k]? = some p → p.n ≠ 0) : hollowB L = false := by
  unfold hollowB
  rw [List.any_eq_false]
  intro p hp
  obtain ⟨k, hk, he⟩ := List.getElem_of_mem hp
  have := h k p hk (by rw [List.getElem?_eq_getElem hk, he])
  simpa using this
theorem right_hollow (X : FileT) : X.right = (!hollowB X.L && (decide (-1 ≤ X.fuse) && (decide (-1 ≤ X.fault) && ((!X.off || X.fuse == -1) && decide (X.long ≤ 524288))))) := by
  unfold FileT.right hollowB
  congr 1
  rw [List.all_eq_not_any_not]
  simp
set_option maxRecDepth 20000 in
theorem check1_any (A : Option Addr) (n c : Nat) (w : World) : Calls Tryd.prog 34 #[.slice A n c] w fun e w' => e = .returned (.bool (decide (n = 0))) ∧ w = w' := by
  by_cases h : n = 0
  · subst h
    go_enter Tryd.func34, Tryd.ntmps34
    go_wp2
    go_ret
    exact ⟨rfl, rfl⟩
  · have h1 : ((n : Int) == 0) = false := by rw [beq_eq_false_iff_ne]; omega
    rw [decide_eq_false h]
    go_enter Tryd.func34, Tryd.ntmps34
    go_wp2
    go_ret
    exact ⟨by first | rfl | simp, rfl⟩
set_option maxRecDepth 20000 in
set_option maxHeartbeats 1000000 in
theorem indexP_any (A : Option Addr) (n c B : Nat) (L : List PcT) (w : World) (h : Shows w B 1 A n (L.map PcT.val)) (hn : n ≤ maxLen) :
    Calls Tryd.prog 55 #[.slice A n c, .func (.func 34) #[] #[]] w fun e w' => ∃ r : Int, e = .returned (.int .i64 r) ∧ Hid (decide (0 ≤ r) = hollowB L) ∧ w = w' := by
  unfold maxLen at hn
  have HL := Lib.hid (show L.length = n by have := h.1; simpa using this)
  have HS := Lib.hid h
  clear h
  go_enter Tryd.func55, Tryd.ntmps55
  go_wp2
  go_loopw [8] (fun i wr => ∃ j : Nat, j ≤ n ∧ i = .int .i64 j ∧ Hid (∀ k p, k < j → L[k]? = some p → p.n ≠ 0) ∧ w = wr) (fun i _ => n - (intOf i).toNat)
  case atStart => exact ⟨0, Nat.zero_le _, rfl, Lib.hid (fun k p hk => absurd hk (Nat.not_lt_zero k)), rfl⟩
  case round =>
    obtain ⟨j, hj, rfl, HN, rfl⟩ := hrel
    by_cases hlt : j < n
    · obtain ⟨b, off, p, rfl, _, hp, hc⟩ := pc_at HS.out hlt
      have hlt' : (j : Int) < n := by omega
      have hc1 := check1_any p.A p.n p.c w
      by_cases h0 : p.n = 0
      · rw [decide_eq_true h0] at hc1
        have HR := Lib.hid (show decide ((0 : Int) ≤ (j : Int)) = hollowB L by rw [hollow_yes hp h0]; simp)
        clear h0 hp HN HS HL
        go_wp2_with fail
        refine hc1.mono ?_
        rintro e W ⟨rfl, rfl⟩
        go_wp2
        go_ret
        exact ⟨_, rfl, HR, rfl⟩
      · rw [decide_eq_false h0] at hc1
        have HN2 := Lib.hid (show ∀ k q, k < j + 1 → L[k]? = some q → q.n ≠ 0 from fun k q hk hq => by
          by_cases e : k = j
          · subst e
            rw [hp] at hq
            cases hq
            exact h0
          · exact HN.out k q (by omega) hq)
        clear h0 hp HN
        go_wp2_with fail
        refine hc1.mono ?_
        rintro e W ⟨rfl, rfl⟩
        clear hc1
        go_wp2
        go_roundw
        case rel => exact ⟨j + 1, by omega, by go_num, HN2, by first | exact trivial | rfl⟩
        case measure => simp [intOf]; omega
    · obtain rfl : j = n := by omega
      have HR := Lib.hid (show decide ((0 : Int) ≤ -1) = hollowB L by rw [hollow_no fun k p hk hp => HN.out k p (by rw [HL.out] at hk; exact hk) hp]; rfl)
      clear HN HS
      go_wp2
      go_ret
      exact ⟨_, rfl, HR, rfl⟩
theorem containsP_any (A : Option Addr) (n c B : Nat) (L : List PcT) (w : World) (h : Shows w B 1 A n (L.map PcT.val)) (hn : n ≤ maxLen) :
    Calls Tryd.prog 33 #[.slice A n c, .func (.func 34) #[] #[]] w fun e w' => e = .returned (.bool (hollowB L)) ∧ w = w' := by
  have hi := indexP_any A n c B L w h hn
  go_enter Tryd.func33, Tryd.ntmps33
  go_wp2_with fail
  refine hi.mono ?_
  rintro e W ⟨r, rfl, HR, rfl⟩
  clear hi
  go_wp2
  go_ret
  exact ⟨by rw [← HR.out]; rfl, rfl⟩
end Go.Proofs.YtghmehfmchadoaaDoor
/-
  Layer 10: Check.
-/
namespace Go.Proofs.YtghmehfmchadoaaDoor
open Go.RowKit
set_option linter.unusedVariables false

set_option maxRecDepth 20000 in
set_option maxHeartbeats 2000000 in
theorem checkF_any (X : FileT) (B : Nat) (w : World) (hL : LieF w B X) (hB : B ≤ w.heap.size) (hN : ∀ p ∈ X.Q, p.n ≤ 1048576) :
    Calls Tryd.prog 13 #[X.agg] w fun e w' => e = .returned (.int .i64 (if X.right = true then 0 else 200)) ∧ Below w.heap.size w w' := by
  have hb1 := bel_alloc (Below.refl w.heap.size w) (.cells #[.slice X.F.A X.F.n X.F.c, .slice X.lA X.ln X.lc, .int .i64 X.fuse, .int .i64 X.fault, .bool X.off] 25)
  obtain ⟨f0, f1, f2, f3, f4⟩ := FBox.new w X 25
  have Hco := Lib.hid (containsP_any X.lA X.ln X.lc B X.L (w.alloc (.cells #[.slice X.F.A X.F.n X.F.c, .slice X.lA X.ln X.lc, .int .i64 X.fuse, .int .i64 X.fault, .bool X.off] 25)) (hL.row.below (hb1.mono hB)) (Nat.le_trans hL.fits hL.most))
  have Hle := Lib.hid (length_any X B (w.alloc (.cells #[.slice X.F.A X.F.n X.F.c, .slice X.lA X.ln X.lc, .int .i64 X.fuse, .int .i64 X.fault, .bool X.off] 25)) (hL.later (hb1.mono hB)) (Nat.le_trans hB hb1.size) hN)
  have HRt := Lib.hid (right_hollow X)
  simp only [FileT.agg, PcT.val] at Hle ⊢
  generalize hollowB X.L = ho at *
  generalize X.right = rt at *
  generalize X.long = lo at *
  clear hL hN
  generalize X.fuse = fu at *
  generalize X.fault = fa at *
  generalize X.off = of at *
  go_enter Tryd.func13, Tryd.ntmps13
  go_wp2_with fail
  refine Hco.out.mono ?_
  rintro e W1 ⟨rfl, rfl⟩
  clear Hco
  by_cases c1 : fu < -1
  · have hr : rt = false := by rw [HRt.out, decide_eq_false (show ¬ -1 ≤ fu by omega)]; simp
    clear Hle
    go_wp2
    all_goals
      go_ret
      exact ⟨by first | rfl | (rw [hr]; rfl), hb1⟩
  · by_cases c2 : fa < -1
    · have hr : rt = false := by rw [HRt.out, decide_eq_false (show ¬ -1 ≤ fa by omega)]; simp
      clear Hle
      go_wp2
      all_goals
        go_ret
        exact ⟨by first | rfl | (rw [hr]; rfl), hb1⟩
    · have d1 : decide (-1 ≤ fu) = true := decide_eq_true (by omega)
      have d2 : decide (-1 ≤ fa) = true := decide_eq_true (by omega)
      cases of
      · cases ho
        · by_cases c5 : 524288 < lo
          · have hr : rt = false := by rw [HRt.out, decide_eq_false (show ¬ lo ≤ 524288 by omega)]; simp
            have hgt : ((524288 : Int) < (lo : Int)) = True := by simp; omega
            clear HRt d1 d2 c5
            go_wp2_with fail
            refine Hle.out.mono ?_
            rintro e W2 ⟨rfl, hb2⟩
            clear Hle
            go_wp2
            all_goals
              go_ret
              exact ⟨by first | rfl | (rw [hr]; rfl), bel_next hb1 hb2⟩
          · have hr : rt = true := by rw [HRt.out, d1, d2, decide_eq_true (show lo ≤ 524288 by omega)]; rfl
            have hgt : ((524288 : Int) < (lo : Int)) = False := by simp; omega
            clear HRt d1 d2 c5
            go_wp2_with fail
            refine Hle.out.mono ?_
            rintro e W2 ⟨rfl, hb2⟩
            clear Hle
            go_wp2
            all_goals
              go_ret
              exact ⟨by first | rfl | (rw [hr]; rfl), bel_next hb1 hb2⟩
        · have hr : rt = false := by rw [HRt.out]; rfl
          clear HRt d1 d2
          clear Hle
          go_wp2
          all_goals
            go_ret
            exact ⟨by first | rfl | (rw [hr]; rfl), hb1⟩
      · by_cases c3 : fu = -1
        · subst c3
          cases ho
          · by_cases c5 : 524288 < lo
            · have hr : rt = false := by rw [HRt.out, decide_eq_false (show ¬ lo ≤ 524288 by omega)]; simp
              have hgt : ((524288 : Int) < (lo : Int)) = True := by simp; omega
              clear HRt d1 d2 c5 c1
              go_wp2_with fail
              refine Hle.out.mono ?_
              rintro e W2 ⟨rfl, hb2⟩
              clear Hle
              go_wp2
              all_goals
                go_ret
                exact ⟨by first | rfl | (rw [hr]; rfl), bel_next hb1 hb2⟩
            · have hr : rt = true := by rw [HRt.out, d1, d2, decide_eq_true (show lo ≤ 524288 by omega)]; rfl
              have hgt : ((524288 : Int) < (lo : Int)) = False := by simp; omega
              clear HRt d1 d2 c5 c1
              go_wp2_with fail
              refine Hle.out.mono ?_
              rintro e W2 ⟨rfl, hb2⟩
              clear Hle
              go_wp2
              all_goals
                go_ret
                exact ⟨by first | rfl | (rw [hr]; rfl), bel_next hb1 hb2⟩
          · have hr : rt = false := by rw [HRt.out]; rfl
            clear HRt d1 d2 c1
            clear Hle
            go_wp2
            all_goals
              go_ret
              exact ⟨by first | rfl | (rw [hr]; rfl), hb1⟩
        · have hne : (fu == -1) = false := beq_eq_false_iff_ne.2 c3
          have hr : rt = false := by rw [HRt.out, hne]; simp
          clear HRt d1 d2
          clear Hle
          go_wp2
          all_goals
            go_ret
            exact ⟨by first | rfl | (rw [hr]; rfl), hb1⟩
end Go.Proofs.YtghmehfmchadoaaDoor
/-
  Layer 10: the reference's Right.
-/
namespace Go.Proofs.YtghmehfmchadoaaDoor
open Go.RowKit
set_option linter.unusedVariables false

end Go.Proofs.YtghmehfmchadoaaDoor
/-
  Layer 10: Len, and the reference's All.
-/
namespace Go.Proofs.YtghmehfmchadoaaDoor
open Go.RowKit
set_option linter.unusedVariables false

set_option maxRecDepth 20000 in
theorem lenF_any (X : FileT) (B : Nat) (w : World) (hL : LieF w B X) (hB : B ≤ w.heap.size) (hN : ∀ p ∈ X.Q, p.n ≤ 1048576) :
    Calls Tryd.prog 24 #[X.agg] w fun e w' => e = .returned (.int .i64 (if X.right = true then (X.long : Nat) else 0)) ∧ Below w.heap.size w w' := by
  have hb1 := bel_alloc (Below.refl w.heap.size w) (.cells #[.slice X.F.A X.F.n X.F.c, .slice X.lA X.ln X.lc, .int .i64 X.fuse, .int .i64 X.fault, .bool X.off] 25)
  have HX := FBox.new w X 25
  have hch := checkF_any X B _ (hL.later (hb1.mono hB)) (Nat.le_trans hB hb1.size) hN
  have Hle := Lib.hid (fun W (h : Below w.heap.size w W) => length_any X B W (hL.later (h.mono hB)) (Nat.le_trans hB h.size) hN)
  simp only [FileT.agg, PcT.val] at Hle hch ⊢
  generalize X.long = lo at *
  clear hL hN
  obtain ⟨f0, f1, f2, f3, f4⟩ := HX
  cases hr : X.right
  · rw [hr] at hch
    clear hr
    go_enter Tryd.func24, Tryd.ntmps24
    go_wp2_with fail
    refine hch.mono ?_
    rintro e W1 ⟨rfl, hb2⟩
    clear hch Hle
    go_wp2
    all_goals
      go_ret
      exact ⟨rfl, bel_next hb1 hb2⟩
  · rw [hr] at hch
    clear hr
    have HX := Lib.hid (FBox.new w X 25)
    go_enter Tryd.func24, Tryd.ntmps24
    go_wp2_with fail
    refine hch.mono ?_
    rintro e W1 ⟨rfl, hb2⟩
    have hb3 := bel_next hb1 hb2
    have hX2 := HX.out.later hb2
    clear hch HX f0 f1 f2 f3 f4
    obtain ⟨f0, f1, f2, f3, f4⟩ := hX2
    go_wp2_with fail
    refine (Hle.out _ hb3).mono ?_
    rintro e W2 ⟨rfl, hb4⟩
    clear Hle
    go_wp2
    all_goals
      go_ret
      exact ⟨rfl, bel_next hb3 hb4⟩
theorem sumN_take (L : List PcT) (k : Nat) : sumN (L.take k) ≤ sumN L := by
  have h : sumN L = sumN (L.take k) + sumN (L.drop k) := by
    unfold sumN
    rw [← List.sum_append, ← List.map_append, List.take_append_drop]
  omega
end Go.Proofs.YtghmehfmchadoaaDoor
/-
  Layer 10: tick, a fresh file, New.
-/
namespace Go.Proofs.YtghmehfmchadoaaDoor
open Go.RowKit
set_option linter.unusedVariables false

def tickN (n : Int) : Int := if 0 < n then n - 1 else n
theorem tick_any (n : Int) (w : World) (hn : (Lit.int .i64 n).wf = true) : Calls Tryd.prog 69 #[.int .i64 n] w fun e w' => e = .returned (.int .i64 (tickN n)) ∧ w = w' := by
  have hb := wf_i64 hn
  clear hn
  by_cases h : 0 < n
  · have e1 : IntKind.i64.wrap (n - 1) = n - 1 := by rw [IntKind.wrap_i64]; omega
    have e2 : wrap64 (n - 1) = n - 1 := by unfold wrap64; omega
    rw [show tickN n = n - 1 from if_pos h]
    clear hb
    go_enter Tryd.func69, Tryd.ntmps69
    go_wp2
    all_goals
      go_ret
      exact ⟨by first | rfl | simp [*], rfl⟩
  · rw [show tickN n = n from if_neg h]
    clear hb
    go_enter Tryd.func69, Tryd.ntmps69
    go_wp2
    all_goals
      go_ret
      exact ⟨rfl, rfl⟩
theorem fresh_any (A : Option Addr) (n c : Nat) (w : World) : Calls Tryd.prog 48 #[.slice A n c] w fun e w' => e = .returned (.agg #[.slice A n c, .slice none 0 0, .int .i64 (-1), .int .i64 (-1), .bool false]) ∧ Below w.heap.size w w' := by
  go_enter Tryd.func48, Tryd.ntmps48
  go_wp2
  refine bodyPost_ret (v := .agg #[.slice A n c, .slice none 0 0, .int .i64 (-1), .int .i64 (-1), .bool false]) ?_ rfl ⟨rfl, bel_alloc (Below.refl _ _) _⟩
  simp [results, Tryd.results48, go_sem, *]
/-- Five cells of a file's variable, and that they may be written. -/
def FVar (W : World) (g : Nat) (a b c d e : Value) : Prop :=
  (W.cell? ⟨g, 0, none⟩ = some a ∧ W.cell? ⟨g, 1, none⟩ = some b ∧ W.cell? ⟨g, 2, none⟩ = some c ∧ W.cell? ⟨g, 3, none⟩ = some d ∧ W.cell? ⟨g, 4, none⟩ = some e) ∧
  (W.frozen? ⟨g, 0, none⟩ = false ∧ W.frozen? ⟨g, 1, none⟩ = false ∧ W.frozen? ⟨g, 2, none⟩ = false ∧ W.frozen? ⟨g, 3, none⟩ = false ∧ W.frozen? ⟨g, 4, none⟩ = false)
theorem FVar.new (w : World) (a b c d e : Value) (t : TypeId) : FVar (w.alloc (.cells #[a, b, c, d, e] t)) w.heap.size a b c d e :=
  ⟨⟨by simp [go_sem], by simp [go_sem], by simp [go_sem], by simp [go_sem], by simp [go_sem]⟩, by simp [go_sem], by simp [go_sem], by simp [go_sem], by simp [go_sem], by simp [go_sem]⟩
theorem FVar.later {W W' : World} {g : Nat} {a b c d e : Value} (h : FVar W g a b c d e) (hb : Below W.heap.size W W') : FVar W' g a b c d e := by
  obtain ⟨⟨h0, h1, h2, h3, h4⟩, k0, k1, k2, k3, k4⟩ := h
  exact ⟨⟨kept_later hb h0, kept_later hb h1, kept_later hb h2, kept_later hb h3, kept_later hb h4⟩, froz_later hb h0 k0, froz_later hb h1 k1, froz_later hb h2 k2, froz_later hb h3 k3, froz_later hb h4 k4⟩
theorem fbelow_set5 {B g : Nat} {w w1 : World} {a b c d e : Value} (h : Below B w w1) (hg : B ≤ g) : Below B w (((((w1.setCell ⟨g, 0, none⟩ a).setCell ⟨g, 1, none⟩ b).setCell ⟨g, 2, none⟩ c).setCell ⟨g, 3, none⟩ d).setCell ⟨g, 4, none⟩ e) :=
  ((((h.setCell hg a).setCell hg b).setCell hg c).setCell hg d).setCell hg e
set_option maxRecDepth 20000 in
theorem newF_any (w : World) : Calls Tryd.prog 28 #[] w fun e w' => e = .returned (.agg #[.slice none 0 0, .slice none 0 0, .int .i64 (-1), .int .i64 (-1), .bool false]) ∧ Below w.heap.size w w' := by
  have hb1 := bel_alloc (Below.refl w.heap.size w) (.cells #[.slice none 0 0, .slice none 0 0, .int .i64 0, .int .i64 0, .bool false] 25)
  have HV := FVar.new w (.slice none 0 0) (.slice none 0 0) (.int .i64 0) (.int .i64 0) (.bool false) 25
  go_enter Tryd.func28, Tryd.ntmps28
  go_wp2_with fail
  refine (fresh_any none 0 0 _).mono ?_
  rintro e w1 ⟨rfl, hb2⟩
  obtain ⟨⟨e0, e1, e2, e3, e4⟩, f0, f1, f2, f3, f4⟩ := HV.later hb2
  have hb3 := bel_next hb1 hb2
  clear HV hb1 hb2
  go_wp2
  refine bodyPost_ret (v := .agg #[.slice none 0 0, .slice none 0 0, .int .i64 (-1), .int .i64 (-1), .bool false]) ?_ rfl ⟨rfl, fbelow_set5 hb3 (Nat.le_refl _)⟩
  simp [results, Tryd.results28, go_sem, *]
end Go.Proofs.YtghmehfmchadoaaDoor
/-
  Layer 10: an operation's askings, one by one: dark, refused.
-/
namespace Go.Proofs.YtghmehfmchadoaaDoor
open Go.RowKit
set_option linter.unusedVariables false

theorem dark_any (g : Nat) (b : Bool) (w : World) (h : w.cell? ⟨g, 4, none⟩ = some (.bool b)) : Calls Tryd.prog 58 #[.pointer (some ⟨g, 0, none⟩)] w fun e w' => e = .returned (.int .i64 (if b = true then 10 else 0)) ∧ w = w' := by
  cases b
  all_goals
    go_enter Tryd.func58, Tryd.ntmps58
    go_wp2
    all_goals
      go_ret
      exact ⟨rfl, rfl⟩
theorem refused_yes (g : Nat) (n : Int) (w : World) (h : w.cell? ⟨g, 3, none⟩ = some (.int .i64 n)) (hn : (n == 0) = false) : Calls Tryd.prog 60 #[.pointer (some ⟨g, 0, none⟩)] w fun e w' => e = .returned (.int .i64 0) ∧ w = w' := by
  go_enter Tryd.func60, Tryd.ntmps60
  go_wp2
  all_goals
    go_ret
    exact ⟨rfl, rfl⟩
theorem refused_no (g : Nat) (w : World) (h : w.cell? ⟨g, 3, none⟩ = some (.int .i64 0)) (hf : w.frozen? ⟨g, 3, none⟩ = false) : Calls Tryd.prog 60 #[.pointer (some ⟨g, 0, none⟩)] w fun e w' => e = .returned (.int .i64 9) ∧ w.setCell ⟨g, 3, none⟩ (.int .i64 (-1)) = w' := by
  go_enter Tryd.func60, Tryd.ntmps60
  go_wp2
  all_goals
    go_ret
    exact ⟨rfl, rfl⟩
end Go.Proofs.YtghmehfmchadoaaDoor
/-
  A region that draws its order, walked by hand, operation by operation: taken first (wanted, or passed over), or carried out; steps that hand on an unnamed world with what it holds. No program in sight.
-/
namespace Go.Proofs.YtghmehfmchadoaaDoor
open Go.RowKit
set_option linter.unusedVariables false

section
variable {P : Program} {l : List Oper} {Q : Exit → Act → World → Prop} {S : World → Prop}

/-- Operation i is wanted, and yields in every world that meets S: it is taken first. -/
theorem rg_in (i : Nat) {oi : Oper} {v : Value} {fuel : Nat} {listed : Array Bool} {a : Act} {w : World} (hi : l[i]? = some oi)
    (hs : Region.noSelect l.toArray = true) (hf : Region.free .any l.toArray listed i = true) (hr : (Region.ready .any l.toArray listed).contains i = true)
    (hw : Region.wanted oi (yielded l.toArray a.tmps) = true) (hQ : ∀ c a w, Q (.panic c) (a.put oi.dst v) w → Q (.panic c) a w) (hS : S w) (hv : ∀ w, S w → (execOp a.eval oi).run P w = .ok (.value v) w)
    (h : wpAnyH P .any l.toArray Q S fuel (listed.setIfInBounds i true) (a.put oi.dst v) w) : wpAnyH P .any l.toArray Q S (fuel + 1) listed a w :=
  wpAnyH_take (by rw [List.getElem?_toArray]; exact hi) hs hf hr hQ (.inl ⟨hw, hv⟩) hS h
/-- Operation i is not wanted: it is passed over. -/
theorem rg_off (i : Nat) {oi : Oper} {fuel : Nat} {listed : Array Bool} {a : Act} {w : World} (hi : l[i]? = some oi)
    (hs : Region.noSelect l.toArray = true) (hf : Region.free .any l.toArray listed i = true) (hr : (Region.ready .any l.toArray listed).contains i = true)
    (hw : Region.wanted oi (yielded l.toArray a.tmps) = false) (hQ : ∀ c a w, Q (.panic c) (a.put oi.dst undef) w → Q (.panic c) a w) (hS : S w)
    (h : wpAnyH P .any l.toArray Q S fuel (listed.setIfInBounds i true) (a.put oi.dst undef) w) : wpAnyH P .any l.toArray Q S (fuel + 1) listed a w :=
  wpAnyH_take (by rw [List.getElem?_toArray]; exact hi) hs hf hr hQ (.inr ⟨hw, rfl⟩) hS h
/-- Operation i alone may come up: it is carried out. -/
theorem rg_do (i : Nat) {oi : Oper} {fuel : Nat} {listed : Array Bool} {a : Act} {w : World} (hi : l[i]? = some oi)
    (hr : Region.ready .any l.toArray listed = [i])
    (hw : Region.wanted oi (yielded l.toArray a.tmps) = true)
    (h : ∀ K' : Act → World → Prop, Shut (∀ a w, S w → (S w → wpAnyH P .any l.toArray Q S fuel (listed.setIfInBounds i true) a w) → K' a w) → Oper.wp P oi a w K' Q) : wpAnyH P .any l.toArray Q S (fuel + 1) listed a w :=
  wpAnyH_ready hr (by simp) (AllReadyH.cons (by rw [List.getElem?_toArray]; exact hi) (fun K hK => by rw [if_pos hw]; exact h K hK) AllReadyH.nil)
/-- One of several that may come up. -/
theorem rg_cons {i : Nat} {oi : Oper} {rs : List Nat} {fuel : Nat} {listed : Array Bool} {a : Act} {w : World} (hi : l[i]? = some oi)
    (hw : Region.wanted oi (yielded l.toArray a.tmps) = true)
    (h : ∀ K' : Act → World → Prop, Shut (∀ a w, S w → (S w → wpAnyH P .any l.toArray Q S fuel (listed.setIfInBounds i true) a w) → K' a w) → Oper.wp P oi a w K' Q)
    (hs : AllReadyH P .any l.toArray Q S fuel listed a w rs) : AllReadyH P .any l.toArray Q S fuel listed a w (i :: rs) :=
  AllReadyH.cons (by rw [List.getElem?_toArray]; exact hi) (fun K hK => by rw [if_pos hw]; exact h K hK) hs
end

section
variable {P : Program} {w w' : World} {o : Oper} {a : Act} {K : Act → World → Prop} {Q : Exit → Act → World → Prop}
theorem blk_later {g : Nat} {x : Obj} (h : w.heap[g]? = some x) (hb : Below w.heap.size w w') : w'.heap[g]? = some x := (hb.block g (Array.getElem?_eq_some_iff.1 h).1).trans h
theorem blk_lt {g : Nat} {x : Obj} (h : w.heap[g]? = some x) : g < w.heap.size := (Array.getElem?_eq_some_iff.1 h).1
theorem blk_other {g : Nat} {x : Obj} {r : Option Nat} (h : w.heap[g]? = some x) (hg : w.grownBy w' r) (hne : some g ≠ r) : w'.heap[g]? = some x := (hg.block g (blk_lt h) hne).trans h
theorem own_later {base : Nat} {e : TypeId} {size n : Nat} {v : Value} {xs : List Value} (h : w.ownsRow base e size v n xs) (hb : Below w.heap.size w w') : w'.ownsRow base e size v n xs :=
  h.kept (row := none) ⟨hb.os, hb.tape, hb.output, hb.size, fun k hk _ => hb.block k hk⟩ (by cases hv : v.ownBlock; exact .inl rfl; exact .inr (by simp))
/-- A row of one element type and a block of another are apart. -/
theorem own_blk_ne {base g : Nat} {e t : TypeId} {size n : Nat} {v : Value} {xs : List Value} {C : Array Value} {fr : Nat × Nat} (h : w.ownsRow base e size v n xs) (hb : w.heap[g]? = some (.cells C t fr)) (hne : t ≠ e) : some g ≠ v.ownBlock := by
  rcases h.2 with ⟨rfl, _⟩ | ⟨k, cap, cur, rfl, _, hk, _⟩
  · simp [Value.ownBlock]
  · intro hg
    simp only [Value.ownBlock, Option.some.injEq] at hg
    subst hg
    rw [hb] at hk
    simp only [Option.some.injEq, Obj.cells.injEq] at hk
    exact hne hk.2.1
/-- '[]T{}'. -/
theorem step_row0 (t e : TypeId) (ho : o.op = .buildSlice t 0 #[]) (base size : Nat) (i : TypeInfo) (ht : P.underlying t = some (.slice e)) (hi : P.info? e = some i) (hbase : base ≤ w.heap.size)
    (h : ∀ g w', w.heap.size ≤ g → w'.ownsRow base e size (.slice (some ⟨g, 0, none⟩) 0 0) 0 [] → Below w.heap.size w w' → K (a.put o.dst (.slice (some ⟨g, 0, none⟩) 0 0)) w') : o.wp P a w K Q := by
  have h0 := h w.heap.size (w.alloc (.cells #[] e)) (Nat.le_refl _) (World.ownsRow_lit w #[] 0 hbase (Nat.zero_le _) (by simp)) ((Below.refl _ _).alloc (Nat.le_refl _) _)
  have hrun : (Instr.buildSlice t 0 #[]).run P w = .ok (.slice (some ⟨w.heap.size, 0, none⟩) 0 0) (w.alloc (.cells #[] e)) := by
    simp only [Instr.buildSlice, sizeOf, typeInfo]
    simp [run_underlying ht, hi, Instr.fill, newRow, Result.andThen]
    rw [Array.eq_empty_of_size_eq_zero (xs := Array.map (fun x => (default : Value)) (Array.range 0)) (by simp)]
  unfold Oper.wp execOp
  simp only [ho, List.map_toArray, List.map_nil, Sem.run_bind, Sem.run_pure, hrun, Result.andThen_ok]
  exact h0
/-- A new variable. -/
theorem step_alloc (t : TypeId) (ho : o.op = .alloc t) (i : TypeInfo) (z : Value) (hi : P.info? t = some i) (hz : i.zero = some z)
    (h : ∀ g w', w.heap.size ≤ g → w'.heap[g]? = some (.cells z.cells t) → Below w.heap.size w w' → K (a.put o.dst (.pointer (some ⟨g, 0, none⟩))) w') : o.wp P a w K Q := by
  have h0 := h w.heap.size (w.alloc (.cells z.cells t)) (Nat.le_refl _) (heap_alloc_new w _) ((Below.refl _ _).alloc (Nat.le_refl _) _)
  have hrun : (Instr.alloc t true (.tuple #[])).run P w = .ok (.pointer (some ⟨w.heap.size, 0, none⟩)) (w.alloc (.cells z.cells t)) := by
    simp only [Instr.alloc, zeroValue, typeInfo, newVar]
    simp [hi, hz, newRow, Result.andThen]
  unfold Oper.wp execOp
  simp only [ho, Sem.run_bind, Sem.run_pure, hrun, Result.andThen_ok]
  exact h0
/-- append onto '[]T{}'. -/
theorem step_app0 (s x : Operand) (t : TypeId) (ho : o.op = .call { callee := .builtin .append, args := #[s, x], argTypes := #[t, t] })
    (base : Nat) (e : TypeId) (i : TypeInfo) (z : Value) (size bytes : Nat) (ht : P.underlying t = some (.slice e)) (hi : P.info? e = some i) (hz : i.zero = some z)
    (hsize : i.size = size) (hby : i.bytes = bytes) (hzs : z.cells.size = size) (hsz : 0 < size)
    (g : Nat) (hs : a.eval s = .slice (some ⟨g, 0, none⟩) 0 0) (hown : w.ownsRow base e size (.slice (some ⟨g, 0, none⟩) 0 0) 0 [])
    (B : Nat) (A : Option Addr) (m c : Nat) (news : List Value) (hx : a.eval x = .slice A m c) (hr : Shows w B size A m news) (h1 : ∀ u ∈ news, u.oneCell' = true)
    (h63 : m ≤ maxLen) (hbytes : m * bytes ≤ 140737488355328) (hbase : base ≤ w.heap.size)
    (h : ∀ A' c' w', w'.ownsRow base e size (.slice A' m c') m news → Below w.heap.size w w' → K (a.put o.dst (.slice A' m c')) w') : o.wp P a w K Q := by
  rcases Nat.eq_zero_or_pos m with rfl | hm
  · obtain rfl : news = [] := List.eq_nil_of_length_eq_zero (by simpa using hr.1)
    have hrun : (Builtin.append_ #[t, t] o.type #[.slice (some ⟨g, 0, none⟩) 0 0, .slice A 0 c]).run P w = .ok (.slice (some ⟨g, 0, none⟩) 0 0) w := by
      cases A <;> simp [Builtin.append_, run_underlying ht, sizeOf, typeInfo, hi, Builtin.lenOf, Builtin.firstCells, loadCells, loadCellsFrom, storeCells, Result.andThen]
    unfold Oper.wp execOp
    simp only [ho, resolve, invoke, builtin, Sem.run_bind, Sem.run_pure, Result.andThen_ok, List.map_toArray, List.map_cons, List.map_nil, hs, hx, hrun]
    exact h _ _ w hown (Below.refl _ _)
  · obtain ⟨b, off, rfl, hb, hc⟩ := hr.2 hm
    obtain ⟨v', w', hrun, r1, r2⟩ := run_append_arg_grows (P := P) w t o.type e i z size bytes ht hi hz hsize hby hzs hsz ⟨g, 0, none⟩ 0 0 [] (by simp) (by simp) ⟨b, off, none⟩ m c news hr.1 (fun j u hu => by rw [addr_add]; exact hc j u hu) (by omega) (by omega) (by simpa using hbytes)
    unfold Oper.wp
    simp [execOp, ho, resolve, invoke, builtin, hs, hx, hrun, Result.andThen]
    have r1' : w'.ownsRow base e size v' m news := by
      simpa using own_base r1 hbase
    obtain ⟨A', c', rfl, _, _⟩ := own_form r1'
    exact h A' c' w' r1' ⟨r2.os, r2.tape, r2.output, r2.size, fun k hk => r2.block k hk (by simp)⟩
end
end Go.Proofs.YtghmehfmchadoaaDoor
