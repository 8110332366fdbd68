/-
  The law MonoidChecks, walked: for every reduction and row it returns true, and no old memory changes.
-/
import Derived.Test.YtinaecmpigenoaaMonD
import Derived.Test.YtinaecmpigenoaaMonE
namespace Go.Proofs.Ytinaecmpigenoaa
open Go.RowKit
theorem monoidChecks_walk (w : World) (r : RedT) (hr : r.ok) (x : ItemT) (hx : R64 x.n) :
    Calls Try.prog 3 #[.agg #[.int .i64 r.c, .int .i64 r.i, .int .i64 (hiI r.v), .int .u64 (loI r.v), .int .i64 r.l, .int .i64 r.m], .agg #[.slice x.A1 x.n1 x.c1, .slice x.A2 x.n2 x.c2, .bool x.b, .int .i64 x.n]] w fun e w' => e = .returned (.bool true) ∧ Below w.heap.size w w' :=
  checks_walk wakes_any w r hr x hx
end Go.Proofs.Ytinaecmpigenoaa
