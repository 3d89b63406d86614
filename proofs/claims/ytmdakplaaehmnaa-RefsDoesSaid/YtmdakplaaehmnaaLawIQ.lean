/-
  RefsDoes, with what refs says put in.
-/
import Derived.Test.YtmdakplaaehmnaaLawIX
import Derived.Test.YtmdakplaaehmnaaLawIV
import Derived.Test.YtmdakplaaehmnaaArg3
namespace Go.Proofs.Ytmdakplaaehmnaa
open Go.RowKit

theorem refsDoes_law (A : Option Addr) (n c : Nat) (z : List Int) (A1 : Option Addr) (n1 c1 : Nat) (l : List Im.Rw) (T : ByteArray) (d k : Int) (w : World) (hz : IntsIn .i64 w A n c z) (hc : c * Try.prog.bytesOf 3 ≤ 140737488351232)
    (hl : RowsIn w A1 n1 c1 l) (hA1 : A1 = none → c1 = 0) (ht : ∀ x ∈ l, x.2.2.length ≤ 140737488355328) (hc1 : c1 * Try.prog.bytesOf 37 ≤ 140737488351232) (_hT : T.size ≤ 140737488351232) (_hd0 : -9223372036854775808 ≤ d) (_hd1 : d ≤ 9223372036854775807) (_hk0 : -9223372036854775808 ≤ k) (_hk1 : k ≤ 9223372036854775807) :
    Calls Try.prog 3 #[.slice A n c, .agg #[.slice A1 n1 c1], .string T, .int .i64 d, .int .i64 k] w fun e w' => e = .returned (.bool true) ∧ Below w.heap.size w w' := by
  have hb : Try.prog.bytesOf 3 = 8 := by kernel_rfl
  have hb1 : Try.prog.bytesOf 37 = 32 := by kernel_rfl
  rw [hb] at hc
  rw [hb1] at hc1
  exact refsDoes_walk refsSays doesSays A n c z A1 n1 c1 l T d k w hz (by have := hz.2.1; omega) ⟨hl, hA1, by have := hl.2.1; omega, ht⟩

end Go.Proofs.Ytmdakplaaehmnaa
