/-
  RefsAgain and RefsBack, with what refs says put in.
-/
import Derived.Test.YtmdakplaaehmnaaJm
import Derived.Test.YtmdakplaaehmnaaLawIB
import Derived.Test.YtmdakplaaehmnaaLawIC
namespace Go.Proofs.Ytmdakplaaehmnaa
open Go.RowKit

theorem refsAgain_law (T : ByteArray) (m : Int) (w : World) (_hT : T.size ≤ 140737488351232) (h0 : 0 ≤ m) (h1 : m ≤ 255) :
    Calls Try.prog 6 #[.string T, .int .u8 m] w fun e w' => e = .returned (.bool true) ∧ Below w.heap.size w w' := by
  obtain ⟨k, rfl⟩ := Int.eq_ofNat_of_zero_le h0
  exact refsAgain_walk refsSays T k w (by omega)
theorem refsBack_law (A : Option Addr) (n c : Nat) (z : List Int) (T : ByteArray) (w : World) (hz : IntsIn .i64 w A n c z) (hc : c * Try.prog.bytesOf 3 ≤ 140737488351232) (_hT : T.size ≤ 140737488351232) :
    Calls Try.prog 5 #[.slice A n c, .string T] w fun e w' => e = .returned (.bool true) ∧ Below w.heap.size w w' := by
  have hb : Try.prog.bytesOf 3 = 8 := by kernel_rfl
  rw [hb] at hc
  exact refsBack_walk refsSays A n c z T w hz (by have := hz.2.1; omega)

end Go.Proofs.Ytmdakplaaehmnaa
