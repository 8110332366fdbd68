/-
  The law MonoidBounds, walked: for every rows and row it returns true, and no old memory changes.
-/
import Derived.Test.YtinaecmpigenoaaMonAD
namespace Go.Proofs.Ytinaecmpigenoaa
open Go.RowKit
theorem monoidBounds_walk (w : World) (A : Option Addr) (n c : Nat) (l : List ItemT) (h : Items w w.heap.size A n l) (hx : ∀ x ∈ l, R64 x.n) (_ : A = none → c = 0) (hn : n ≤ c) (hc : c ≤ maxLen) (y : ItemT) (hy : R64 y.n) :
    Calls Try.prog 7 #[.slice A n c, .agg #[.slice y.A1 y.n1 y.c1, .slice y.A2 y.n2 y.c2, .bool y.b, .int .i64 y.n]] w fun e w' => e = .returned (.bool true) ∧ Below w.heap.size w w' :=
  bounds_walk A n c l w h hx hn hc y hy
end Go.Proofs.Ytinaecmpigenoaa
