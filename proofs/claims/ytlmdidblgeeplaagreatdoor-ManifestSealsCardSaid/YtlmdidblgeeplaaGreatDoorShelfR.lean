/- The library contracts of slices.IndexFunc, slices.ContainsFunc at slices of structs of two ints, laid at this program: each laying a table of numbers and one theorem. -/
import Derived.Shelf.SlicesQ.IndexFunc
import Derived.Test.YtlmdidblgeeplaaGreatDoorChecked
namespace Go.Proofs.YtlmdidblgeeplaaGreatDoor
open Go.Shelf
def shIndex_ren : Go.Shelf.Ren := ⟨fun | 6 => 221 | n => n, fun | 22 => 208 | 23 => 56 | 25 => 197 | 3 => 3 | 0 => 0 | 4 => 4 | n => n, fun | n => n⟩
theorem shIndex : Go.Proofs.SlLaysH0.n6 Tryz.prog shIndex_ren := {
  mixed := by kernel_rfl
  f6 := ⟨Tryz.f221.name, by decide, Tryz.func221.trans (congrArg some (by kernel_rfl))⟩
  t0 := Tryz.underlying0
  a0 := Tryz.isAgg0
  z0 := Tryz.sizeOf0
  v0 := Tryz.zeroValue0
  t3 := Tryz.underlying3
  a3 := Tryz.isAgg3
  z3 := Tryz.sizeOf3
  v3 := Tryz.zeroValue3
  t4 := Tryz.underlying4
  a4 := Tryz.isAgg4
  z4 := Tryz.sizeOf4
  v4 := Tryz.zeroValue4
  t22 := Tryz.underlying208
  a22 := Tryz.isAgg208
  z22 := Tryz.sizeOf208
  v22 := Tryz.zeroValue208
  t25 := Tryz.underlying197
  a25 := Tryz.isAgg197
  z25 := Tryz.sizeOf197
  v25 := Tryz.zeroValue197 }
def shContains_ren : Go.Shelf.Ren := ⟨fun | 8 => 210 | 6 => 221 | n => n, fun | 22 => 208 | 23 => 56 | 25 => 197 | 4 => 4 | 3 => 3 | 0 => 0 | n => n, fun | n => n⟩
theorem shContains : Go.Proofs.SlLaysH0.n8 Tryz.prog shContains_ren := {
  mixed := by kernel_rfl
  f6 := ⟨Tryz.f221.name, by decide, Tryz.func221.trans (congrArg some (by kernel_rfl))⟩
  f8 := ⟨Tryz.f210.name, by decide, Tryz.func210.trans (congrArg some (by kernel_rfl))⟩
  t0 := Tryz.underlying0
  a0 := Tryz.isAgg0
  z0 := Tryz.sizeOf0
  v0 := Tryz.zeroValue0
  t3 := Tryz.underlying3
  a3 := Tryz.isAgg3
  z3 := Tryz.sizeOf3
  v3 := Tryz.zeroValue3
  t4 := Tryz.underlying4
  a4 := Tryz.isAgg4
  z4 := Tryz.sizeOf4
  v4 := Tryz.zeroValue4
  t22 := Tryz.underlying208
  a22 := Tryz.isAgg208
  z22 := Tryz.sizeOf208
  v22 := Tryz.zeroValue208
  t25 := Tryz.underlying197
  a25 := Tryz.isAgg197
  z25 := Tryz.sizeOf197
  v25 := Tryz.zeroValue197 }
end Go.Proofs.YtlmdidblgeeplaaGreatDoor
