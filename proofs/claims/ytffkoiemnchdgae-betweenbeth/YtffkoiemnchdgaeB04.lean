/- Texts of one proof, one behind the other: BD0. -/
import Derived.Shelf.SlicesE.DeleteFunc
import Derived.Test.YtffkoiemnchdgaeProg
/- A contract of the library, laid at this program: slices.DeleteFunc at []string. -/
namespace Go.Proofs
open Go.Shelf
def Try.layStDel_ren : Go.Shelf.Ren := ⟨fun | 10 => 51 | 6 => 67 | n => n, fun | 22 => 43 | 23 => 9 | 25 => 52 | 3 => 3 | 4 => 4 | 0 => 0 | n => n, fun | n => n⟩
theorem Try.layStDel : Go.Proofs.SlLaysH.n10 Try.prog Try.layStDel_ren := {
  mixed := by kernel_rfl
  f6 := ⟨Try.f67.name, by decide, Try.func67.trans (congrArg some (by kernel_rfl))⟩
  f10 := ⟨Try.f51.name, by decide, Try.func51.trans (congrArg some (by kernel_rfl))⟩
  t0 := Try.underlying0
  a0 := Try.isAgg0
  z0 := Try.sizeOf0
  v0 := Try.zeroValue0
  t3 := Try.underlying3
  a3 := Try.isAgg3
  z3 := Try.sizeOf3
  v3 := Try.zeroValue3
  t4 := Try.underlying4
  a4 := Try.isAgg4
  z4 := Try.sizeOf4
  v4 := Try.zeroValue4
  t22 := Try.underlying43
  a22 := Try.isAgg43
  z22 := Try.sizeOf43
  v22 := Try.zeroValue43
  a23 := Try.isAgg9
  z23 := Try.sizeOf9
  t25 := Try.underlying52
  a25 := Try.isAgg52
  z25 := Try.sizeOf52
  v25 := Try.zeroValue52 }
end Go.Proofs
