/-
  Contract of firstLength.
-/
import Derived.Test.YtmdakplaaehmnaaChA
namespace Go.Proofs.Ytmdakplaaehmnaa
open Go.RowKit
set_option maxHeartbeats 400000

/-- a valid cutting as a value -/
def Cm.C.cells (c : Cm.C) : Array Value := #[.int .i64 (c.L : Nat), .int .i64 (c.M : Nat), .int .i64 (c.W : Nat), .int .i64 (c.K : Nat)]
def Cm.C.val (c : Cm.C) : Value := .agg c.cells

theorem Cm.take_list (s : ByteArray) (k : Nat) : (s.extract 0 k).data.toList = s.data.toList.take k := by
  simp [List.extract_eq_take_drop]
theorem Cm.drop_list (s : ByteArray) (k : Nat) : (s.extract k s.size).data.toList = s.data.toList.drop k := by
  simp [List.extract_eq_take_drop]
  exact List.take_of_length_le (by rw [List.length_drop]; simp)

end Go.Proofs.Ytmdakplaaehmnaa
