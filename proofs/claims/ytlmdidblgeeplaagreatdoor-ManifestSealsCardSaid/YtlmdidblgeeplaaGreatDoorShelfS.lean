/- The library contracts of slices.IndexFunc, slices.ContainsFunc at slices of structs of two ints, laid at this program: each laying a table of numbers and one theorem. -/
import Derived.Shelf.SlicesQ.IndexFunc
import Derived.Test.YtlmdidblgeeplaaGreatDoorChecked
namespace Go.Proofs.YtlmdidblgeeplaaGreatDoor
open Go.Shelf
def shIndexS_ren : Go.Shelf.Ren := ⟨fun | 6 => 209 | n => n, fun | 22 => 24 | 23 => 82 | 25 => 207 | 3 => 3 | 0 => 0 | 4 => 4 | n => n, fun | n => n⟩
theorem shIndexS : Go.Proofs.SlLaysH0.n6 Tryz.prog shIndexS_ren := {
  mixed := by kernel_rfl
  f6 := ⟨Tryz.f209.name, by decide, Tryz.func209.trans (congrArg some (by kernel_rfl))⟩
  t0 := Tryz.underlying0
  a0 := Tryz.isAgg0
  z0 := Tryz.sizeOf0
  v0 := Tryz.zeroValue0
  t3 := Tryz.underlying3
  a3 := Tryz.isAgg3
  z3 := Tryz.sizeOf3
  v3 := Tryz.zeroValue3
  t4 := Tryz.underlying4
  a4 := Tryz.isAgg4
  z4 := Tryz.sizeOf4
  v4 := Tryz.zeroValue4
  t22 := Tryz.underlying24
  a22 := Tryz.isAgg24
  z22 := Tryz.sizeOf24
  v22 := Tryz.zeroValue24
  t25 := Tryz.underlying207
  a25 := Tryz.isAgg207
  z25 := Tryz.sizeOf207
  v25 := Tryz.zeroValue207 }
def shContainsS_ren : Go.Shelf.Ren := ⟨fun | 8 => 190 | 6 => 209 | n => n, fun | 22 => 24 | 23 => 82 | 25 => 207 | 4 => 4 | 3 => 3 | 0 => 0 | n => n, fun | n => n⟩
theorem shContainsS : Go.Proofs.SlLaysH0.n8 Tryz.prog shContainsS_ren := {
  mixed := by kernel_rfl
  f6 := ⟨Tryz.f209.name, by decide, Tryz.func209.trans (congrArg some (by kernel_rfl))⟩
  f8 := ⟨Tryz.f190.name, by decide, Tryz.func190.trans (congrArg some (by kernel_rfl))⟩
  t0 := Tryz.underlying0
  a0 := Tryz.isAgg0
  z0 := Tryz.sizeOf0
  v0 := Tryz.zeroValue0
  t3 := Tryz.underlying3
  a3 := Tryz.isAgg3
  z3 := Tryz.sizeOf3
  v3 := Tryz.zeroValue3
  t4 := Tryz.underlying4
  a4 := Tryz.isAgg4
  z4 := Tryz.sizeOf4
  v4 := Tryz.zeroValue4
  t22 := Tryz.underlying24
  a22 := Tryz.isAgg24
  z22 := Tryz.sizeOf24
  v22 := Tryz.zeroValue24
  t25 := Tryz.underlying207
  a25 := Tryz.isAgg207
  z25 := Tryz.sizeOf207
  v25 := Tryz.zeroValue207 }
end Go.Proofs.YtlmdidblgeeplaaGreatDoor
