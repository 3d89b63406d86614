/-
  Contracts of chunk's and the reference's Weight, Check and of firstLength.
-/
import Derived.Test.YtmdakplaaehmnaaRows
import Derived.Test.YtmdakplaaehmnaaCm
import Derived.Test.YtmdakplaaehmnaaKit
import Derived.WalkKit
import Derived.WalkSpells
import Derived.Handy
import Derived.BigQuiet
import Derived.Deep.QuietTactic
import Derived.Lib.Hide
namespace Go.Proofs.Ytmdakplaaehmnaa
open Go.RowKit
set_option maxHeartbeats 400000

/-- the last bytes of a text -/
theorem Cm.last (s : ByteArray) (m : Nat) (hm : m ≤ s.size) : ∃ T : ByteArray, s.extract (s.size - m) s.size = T ∧ T.size = m ∧ ∀ i (h : i < T.size), (T[i]'h).toNat = Cm.by' s.data.toList (s.data.toList.length - m + i) := by
  refine ⟨_, rfl, by rw [ByteArray.size_extract]; omega, fun i h => ?_⟩
  have hl : s.data.toList.length = s.size := by simp
  have hi : i < m := by rw [ByteArray.size_extract] at h; omega
  rw [hl, Cm.by', List.getD_eq_getElem?_getD, List.getElem?_eq_getElem (by rw [hl]; omega)]
  rw [ByteArray.getElem_extract]
  rfl

/-- is a cutting valid -/
def Cm.okB (a b c d : Int) : Bool := decide (4 ≤ a ∧ a ≤ b ∧ b ≤ 256 ∧ 1 ≤ c ∧ c ≤ a ∧ 1 ≤ d ∧ d ≤ 1024)
/-- what Check answers -/
def Cm.chk (a b c d : Int) : Int := if Cm.okB a b c d then 0 else 1

end Go.Proofs.Ytmdakplaaehmnaa
