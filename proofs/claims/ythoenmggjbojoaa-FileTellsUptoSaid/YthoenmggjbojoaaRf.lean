/-
  A range over a function whose iterator writes a variable of its own: the statement opened into the iterator's one call, and a round into the body's walk; what the iterator may touch is the caller's to say. No program in sight.
-/
import Derived.Test.YthoenmggjbojoaaW
import Derived.Test.YthoenmggjbojoaaInts
import Derived.Shelf.Abstract
import Derived.RangeFuncNested
namespace Go.Proofs.Ythoenmggjbojoaa
open Go.RowKit Go.Shelf

variable {F : Fence} {n : Nat} {P : Program}

/-- The record that the statement lays. -/
def recOf (fn : FuncId) (tmps : Array Value) (ps : Array Tmp) (assign body : Code) (D : Nat) (st : LoopState) (pe : Option Code) : Loop :=
  { state := st, pending := pe, fn := fn, tmps := tmps, params := ps, assign := assign, body := body, defers := D }
/-- What follows the iterator's return, by the jump that waits. -/
def goesOn (F : Fence) (n : Nat) (P : Program) (Q : Exit → Act → World → Prop) (a : Act) (W : World) : Option Code → Prop
  | none => Q .normal a W
  | some c => c.wpIn F n P Q a W

theorem range_open {g : Operand} {ps : Array Tmp} {assign body : Code} {Q : Exit → Act → World → Prop} {a : Act} {w : World} {gf : Nat} {lb : Array Value}
    (hro : F.round = none) (h1 : 1 ≤ n) (hg : a.eval g = .func (.func gf) #[] lb) (hFg : F.fn gf) (eg : ∀ args w, (callFunc gf args).run P w = .ok (.enter gf args) w)
    (hcall : ∀ fn, F.fn fn → CallsIn F (n - 1) P gf (#[.func (.yield (w.heap.size + 1)) #[] #[]] ++ lb) ((w.alloc (.deferred (some []))).alloc (.loop (recOf fn a.tmps ps assign body w.heap.size .ready none)))
      fun e B => (∃ v, e = .returned v) ∧ ∃ st pe, B.heap[w.heap.size + 1]? = some (.loop (recOf fn a.tmps ps assign body w.heap.size st pe)) ∧ st ≠ .busy ∧
        goesOn F n P Q { a with defers := { target := .collected w.heap.size, args := #[] } :: a.defers } (B.putObj (w.heap.size + 1) (.loop (recOf fn a.tmps ps assign body w.heap.size .exhausted pe))) pe) :
    (Code.rangeFunc g ps assign body).wpIn F n P Q a w := by
  refine wpIn_rangeFunc fun fn hfn => ?_
  rw [hro]
  refine ⟨_, _, _, { target := .fn (.func gf) lb, args := #[.func (.yield (w.heap.size + 1)) #[] #[]] }, (w.alloc (.deferred (some []))).alloc (.loop (recOf fn a.tmps ps assign body w.heap.size .ready none)), gf, _, _, run_enterLoop_outer fn a.tmps ps assign body, ?_, ?_, ?_, fun _ => h1, (hcall fn hfn).mono ?_⟩
  · simp only [resolve, hg]
    simp [go_sem, recOf]
  · intro f' hf'
    simp [Target.leads] at hf'
    subst hf'
    exact hFg
  · simp [invoke, go_sem, eg]
  · rintro e B ⟨⟨v, rfl⟩, st, pe, hl, hb, hgo⟩
    refine ⟨pe, _, run_endLoop hl hb, ?_⟩
    cases pe <;> exact hgo

/-- How a round may be left, and what then holds. -/
def roundEnd (l : Nat) (r : Option Code → LoopState → Loop) (R : Ending → World → Prop) : Exit → Act → World → Prop
  | .normal, _, W => W.heap[l]? = some (.loop (r none .busy)) ∧ R (.returned (.bool true)) (W.putObj l (.loop (r none .ready)))
  | .exit id, _, W => W.heap[l]? = some (.loop (r none .busy)) ∧ R (.returned (.bool false)) (W.putObj l (.loop (r (some (.exit id)) .done)))
  | _, _, _ => False
theorem round_open {m l : Nat} {fn : FuncId} {tmps : Array Value} {ps : Array Tmp} {assign body : Code} {D : Nat} {args : Array Value} {W : World} {R : Ending → World → Prop} (hF : F.fn fn)
    (hl : W.heap[l]? = some (.loop (recOf fn tmps ps assign body D .ready none))) (hs : args.size = ps.size)
    (h : assign.wpIn (F.inRound l) m P (Exit.then (fun a' W2 => W2.heap[l]? = some (.loop (recOf fn tmps ps assign body D .ready none)) ∧
        body.wpIn (F.inRound l) m P (roundEnd l (fun pe st => recOf fn tmps ps assign body D st pe) R) a' (W2.putObj l (.loop (recOf fn tmps ps assign body D .busy none)))) (fun _ _ _ => False))
      { tmps := (ps.zip args).foldl (fun t (p, v) => t.setIfInBounds p v) tmps, defers := [] } W) :
    YieldAt F m P l args W R := by
  refine ⟨fn, _, assign, body, run_yield hl hs, roundIn_of_wpIn hF (wpIn_mono h ?_)⟩
  intro e a' W2 he
  cases e with
  | normal =>
    obtain ⟨h2, hb⟩ := he
    refine ⟨_, run_beginRound h2 rfl, wpIn_mono hb ?_⟩
    intro e3 a3 W3 h3
    cases e3 with
    | normal => exact ⟨_, _, run_endRound none h3.1, h3.2⟩
    | exit id => exact ⟨_, _, run_endRound (some (.exit id)) h3.1, h3.2⟩
    | ret => exact h3.elim
    | goto t => exact h3.elim
    | panic ch => exact h3.elim
    | outgrown => exact h3.elim
  | ret => exact he.elim
  | exit id => exact he.elim
  | goto t => exact he.elim
  | panic ch => exact he.elim
  | outgrown => exact he.elim
end Go.Proofs.Ythoenmggjbojoaa
