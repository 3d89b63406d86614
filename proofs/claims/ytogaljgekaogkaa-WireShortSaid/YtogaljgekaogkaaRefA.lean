/-
  Contracts of the reference's Int.
-/
import Derived.Test.YtogaljgekaogkaaWireA
namespace Go.Proofs.Ytogaljgekaogkaa
open Go.RowKit
set_option maxHeartbeats 400000

theorem Wm.and127 (B : Nat) (h : B < 256) : bits .and .u8 (B : Int) 127 = ((B % 128 : Nat) : Int) := by
  have := bits_mask .u8 8 (by decide) wraps_u8 7 (by decide) (B : Int) (by omega) (by omega)
  rw [show ((2 : Int) ^ 7 - 1) = 127 by decide] at this
  rw [this]; simp
theorem Wm.and1 (u : Nat) (h : u < 18446744073709551616) : bits .and .u64 (u : Int) 1 = ((u % 2 : Nat) : Int) := by
  have := bits_and_u64_nat u 1 h (by omega)
  rw [show ((1 : Nat) : Int) = 1 from rfl] at this
  rw [this, Nat.and_one_is_mod]

end Go.Proofs.Ytogaljgekaogkaa
