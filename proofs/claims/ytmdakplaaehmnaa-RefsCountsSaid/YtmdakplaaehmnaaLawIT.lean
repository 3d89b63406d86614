/-
  RefsCounts, with what refs says put in.
-/
import Derived.Test.YtmdakplaaehmnaaJm
import Derived.Test.YtmdakplaaehmnaaLawIR
namespace Go.Proofs.Ytmdakplaaehmnaa
open Go.RowKit

theorem refsCounts_law (A : Option Addr) (n c : Nat) (z : List Int) (w : World) (hz : IntsIn .i64 w A n c z) (hc : c * Try.prog.bytesOf 3 ≤ 140737488351232) :
    Calls Try.prog 4 #[.slice A n c] w fun e w' => e = .returned (.bool true) ∧ Below w.heap.size w w' := by
  have hb : Try.prog.bytesOf 3 = 8 := by kernel_rfl
  rw [hb] at hc
  exact refsCounts_walk refsSays A n c z w hz (by have := hz.2.1; omega)

end Go.Proofs.Ytmdakplaaehmnaa
