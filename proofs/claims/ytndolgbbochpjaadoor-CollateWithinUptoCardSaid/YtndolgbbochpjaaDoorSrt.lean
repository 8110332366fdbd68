/-
  The foundation of slices.SortFunc laid at this dump, in plain words, by the kit's two commands (tools/sortfunc.py).
-/
import Derived.Shelf.SlSortCmp.InsertionK
import Derived.Test.YtndolgbbochpjaaDoorProg
namespace Go.Proofs
open Go.Shelf
def Tryd.insV_ren : Go.Shelf.Ren := ⟨fun | 20 => 61 | n => n, fun | 24 => 25 | 22 => 22 | 3 => 3 | 25 => 31 | 4 => 4 | 0 => 0 | n => n, fun | n => n⟩
theorem Tryd.insV : Go.Proofs.SlLaysF0.n20 Tryd.prog Tryd.insV_ren := {
  mixed := by kernel_rfl
  f20 := ⟨Tryd.f61.name, by decide, Tryd.func61.trans (congrArg some (by kernel_rfl))⟩
  t0 := Tryd.underlying0
  a0 := Tryd.isAgg0
  z0 := Tryd.sizeOf0
  v0 := Tryd.zeroValue0
  t3 := Tryd.underlying3
  a3 := Tryd.isAgg3
  z3 := Tryd.sizeOf3
  v3 := Tryd.zeroValue3
  t4 := Tryd.underlying4
  a4 := Tryd.isAgg4
  z4 := Tryd.sizeOf4
  v4 := Tryd.zeroValue4
  t22 := Tryd.underlying22
  a22 := Tryd.isAgg22
  z22 := Tryd.sizeOf22
  v22 := Tryd.zeroValue22
  t25 := Tryd.underlying31
  a25 := Tryd.isAgg31
  z25 := Tryd.sizeOf31
  v25 := Tryd.zeroValue31 }
end Go.Proofs
