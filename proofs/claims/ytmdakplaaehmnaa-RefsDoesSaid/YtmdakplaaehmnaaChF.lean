/-
  Contracts of Same and ints.
-/
import Derived.Test.YtmdakplaaehmnaaChE
namespace Go.Proofs.Ytmdakplaaehmnaa
open Go.RowKit
set_option maxHeartbeats 1000000

theorem Cm.b_inj {x y : List UInt8} (h : Cm.b x = Cm.b y) : x = y := by rw [← Cm.b_list x, h, Cm.b_list]
theorem take_step {α : Type} {x y : List α} {k : Nat} (hx : k < x.length) (hy : k < y.length) (h : x.take k = y.take k) (he : x[k] = y[k]) : x.take (k + 1) = y.take (k + 1) := by
  rw [List.take_succ_eq_append_getElem hx, List.take_succ_eq_append_getElem hy, h, he]
theorem Cm.ret_bool {a b : Bool} (h : a = b) : Ending.returned (.bool a) = .returned (.bool b) := by rw [h]

end Go.Proofs.Ytmdakplaaehmnaa
