import Derived.Test.YtnfohlabmidliaaGai
import Derived.Test.YtnfohlabmidliaaGae
import Derived.Test.YtnfohlabmidliaaGak
/-
  The reference: SameItem of any two.
-/
namespace Go.Proofs.Ytnfohlabmidliaa
open Go.RowKit
set_option linter.unusedVariables false
set_option linter.unusedSimpArgs false

def ItT.eqB (x y : ItT) : Bool := sameB x.k.l y.k.l && (sameB x.v.l y.v.l && (x.b == y.b && decide (x.n = y.n)))
set_option maxRecDepth 20000 in
set_option maxHeartbeats 2000000 in
theorem rSameItem_any (x y : ItT) (B : Nat) (w : World) (hx : x.Ok w B) (hy : y.Ok w B) (hB : B ≤ w.heap.size) :
    Calls Try.prog 40 #[.agg #[.slice x.k.A x.k.n x.k.c, .slice x.v.A x.v.n x.v.c, .bool x.b, .int .i64 x.n], .agg #[.slice y.k.A y.k.n y.k.c, .slice y.v.A y.v.n y.v.c, .bool y.b, .int .i64 y.n]] w fun e w' => e = .returned (.bool (x.eqB y)) ∧ Below w.heap.size w w' := by
  have hb := bel_alloc (bel_alloc (Below.refl w.heap.size w) (.cells #[.slice x.k.A x.k.n x.k.c, .slice x.v.A x.v.n x.v.c, .bool x.b, .int .i64 x.n] 58)) (.cells #[.slice y.k.A y.k.n y.k.c, .slice y.v.A y.v.n y.v.c, .bool y.b, .int .i64 y.n] 58)
  have hx1 := hx.later (hb.mono hB)
  have hy1 := hy.later (hb.mono hB)
  have k1 := run_bytes_string (P := Try.prog) Try.underlying32 Try.underlying5 Try.underlying9 _ x.k.A x.k.n x.k.c B x.k.l hx1.key.here
  have k2 := run_bytes_string (P := Try.prog) Try.underlying32 Try.underlying5 Try.underlying9 _ y.k.A y.k.n y.k.c B y.k.l hy1.key.here
  have k3 := run_bytes_string (P := Try.prog) Try.underlying32 Try.underlying5 Try.underlying9 _ x.v.A x.v.n x.v.c B x.v.l hx1.val.here
  have k4 := run_bytes_string (P := Try.prog) Try.underlying32 Try.underlying5 Try.underlying9 _ y.v.A y.v.n y.v.c B y.v.l hy1.val.here
  have t1 := bofL_beq x.k.l y.k.l
  have t2 := bofL_beq x.v.l y.v.l
  have t3 : (x.n == y.n) = decide (x.n = y.n) := by rw [Bool.eq_iff_iff]; simp
  obtain ⟨z, hz⟩ : ∃ z, x.eqB y = z := ⟨_, rfl⟩
  rw [hz]
  unfold ItT.eqB at hz
  generalize sameB x.k.l y.k.l = c1 at *
  generalize sameB x.v.l y.v.l = c2 at *
  generalize decide (x.n = y.n) = c3 at *
  clear hx hy hx1 hy1
  generalize ofL x.k.l = s1 at *
  generalize ofL y.k.l = s2 at *
  generalize ofL x.v.l = s3 at *
  generalize ofL y.v.l = s4 at *
  generalize x.b = b1 at *
  generalize y.b = b2 at *
  generalize x.n = n1 at *
  generalize y.n = n2 at *
  cases c1
  · subst hz
    go_enter Try.func40, Try.ntmps40
    go_wp2
    go_ret
    exact ⟨rfl, hb⟩
  · cases c2
    · subst hz
      go_enter Try.func40, Try.ntmps40
      go_wp2
      go_ret
      exact ⟨rfl, hb⟩
    · cases b1 <;> cases b2 <;> subst hz <;>
      · go_enter Try.func40, Try.ntmps40
        go_wp2
        go_ret
        exact ⟨by first | rfl | simp, hb⟩
end Go.Proofs.Ytnfohlabmidliaa
