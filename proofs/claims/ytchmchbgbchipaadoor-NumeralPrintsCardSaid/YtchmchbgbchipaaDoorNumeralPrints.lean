/-
  The walk of NumeralPrints.
-/
import Derived.Test.YtchmchbgbchipaaDoorNumW
namespace Go.Proofs.YtchmchbgbchipaaDoor
open Go.RowKit

set_option maxRecDepth 20000 in
theorem numeralPrints_walk (w : World) (n : Int) (hn : (Lit.int .i64 n).wf = true) (hv : NVars w) :
    Calls Tryd.prog 4 #[.int .i64 n] w fun e w' => e = .returned (.bool true) ∧ Below w.heap.size w w' := by
  have h64 := i64_wf hn
  have hr := fun W => refPrint_any n h64 W
  have hp := fun W hW => print_any n h64 W hW
  have hz := fun W hW => size_any n h64 W hW
  have hs : ((Lib.itoa n).length : Int) = ((ofL (Lib.itoa n)).size : Int) := by rw [ofL_size]
  rw [hs] at hz
  have hself : ((ofL (Lib.itoa n)).toList == (ofL (Lib.itoa n)).toList) = true := by simp
  clear hn h64 hs
  generalize ofL (Lib.itoa n) = S at *
  go_enter Tryd.func4, Tryd.ntmps4
  go_wp2_with fail
  refine (wakes_any w hv).mono ?_
  rintro e w1 ⟨rfl, hb1⟩
  have v1 := hv.next hb1
  go_wp2_with fail
  refine (hr _).mono ?_
  rintro e w2 ⟨rfl, hb2⟩
  have v2 := v1.next hb2
  go_wp2_with fail
  refine (hp _ v2).mono ?_
  rintro e w3 ⟨rfl, hb3⟩
  have v3 := v2.next hb3
  go_wp2_with fail
  refine (hz _ v3).mono ?_
  rintro e w4 ⟨rfl, hb4⟩
  go_wp2
  go_ret
  exact ⟨rfl, bel_next hb1 (bel_next hb2 (bel_next hb3 hb4))⟩
end Go.Proofs.YtchmchbgbchipaaDoor
