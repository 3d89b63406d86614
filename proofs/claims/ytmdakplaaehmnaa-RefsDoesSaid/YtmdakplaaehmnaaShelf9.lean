/-
  Layings of library functions at this program (numbers of functions and types), in plain words: printed by the kit at this program.
-/
import Derived.Shelf.SlGeneric
import Derived.Shelf.SlLaysO
import Derived.Shelf.SlLaysE0
import Derived.Ground.SlsoProg
import Derived.Ground.SlgnProg
import Derived.Test.YtmdakplaaehmnaaProg
namespace Go.Proofs.Ytmdakplaaehmnaa
open Go.Shelf
def Try.search_ren : Go.Shelf.Ren := ⟨fun | 16 => 43 | n => n, fun | 3 => 3 | 35 => 71 | 4 => 4 | 38 => 73 | n => n, fun | n => n⟩
theorem Try.search : Go.Proofs.SlLaysO.n16 Try.prog Try.search_ren := {
  mixed := by kernel_rfl
  f16 := Try.func43.trans (congrArg some (by kernel_rfl))
  t3 := Try.underlying3
  a3 := Try.isAgg3
  z3 := Try.sizeOf3
  v3 := Try.zeroValue3
  t4 := Try.underlying4
  a4 := Try.isAgg4
  z4 := Try.sizeOf4
  v4 := Try.zeroValue4
  t35 := Try.underlying71
  a35 := Try.isAgg71
  z35 := Try.sizeOf71
  v35 := Try.zeroValue71
  t38 := Try.underlying73
  a38 := Try.isAgg73
  z38 := Try.sizeOf73
  v38 := Try.zeroValue73 }
def Try.cloneRow_ren : Go.Shelf.Ren := ⟨fun | 41 => 48 | n => n, fun | 22 => 23 | 23 => 37 | 4 => 4 | n => n, fun | n => n⟩
theorem Try.cloneRow : Go.Proofs.SlLaysE0.n41 Try.prog Try.cloneRow_ren := {
  mixed := by kernel_rfl
  f41 := ⟨Try.f48.name, by decide, Try.func48.trans (congrArg some (by kernel_rfl))⟩
  t4 := Try.underlying4
  a4 := Try.isAgg4
  z4 := Try.sizeOf4
  v4 := Try.zeroValue4
  t22 := Try.underlying23
  a22 := Try.isAgg23
  z22 := Try.sizeOf23
  v22 := Try.zeroValue23 }
end Go.Proofs.Ytmdakplaaehmnaa
