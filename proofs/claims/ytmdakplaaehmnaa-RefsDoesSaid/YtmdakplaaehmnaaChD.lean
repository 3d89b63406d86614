/-
  Contracts of Cut and Ends.
-/
import Derived.Test.YtmdakplaaehmnaaChC
import Derived.Deep.LoopGhost
namespace Go.Proofs.Ytmdakplaaehmnaa
open Go.RowKit
set_option maxHeartbeats 1000000

/-- a text as a string -/
def Cm.b (x : List UInt8) : ByteArray := ⟨x.toArray⟩
theorem Cm.b_list (x : List UInt8) : (Cm.b x).data.toList = x := by simp [Cm.b]
theorem Cm.b_of (s : ByteArray) : Cm.b s.data.toList = s := bytes_ext (Cm.b_list _)
theorem Cm.b_eq {s : ByteArray} {x : List UInt8} (h : s.data.toList = x) : s = Cm.b x := by rw [← h, Cm.b_of]
def Cm.str (x : List UInt8) : Value := .string (Cm.b x)
/-- what Cut answers at a valid cutting -/
def Cm.cutR (c : Cm.C) (s : List UInt8) : List (List UInt8) × Int := if (Cm.cut c s).length ≤ 256 then (Cm.cut c s, 0) else ([], 4)
/-- what Cut answers -/
def Cm.cutV (a b c d : Int) (s : List UInt8) : List (List UInt8) × Int := if Cm.okB a b c d then Cm.cutR ⟨a.toNat, b.toNat, c.toNat, d.toNat⟩ s else ([], 1)
theorem Cm.ok_of {a b c d : Int} (h : Cm.okB a b c d = true) : Cm.C.ok ⟨a.toNat, b.toNat, c.toNat, d.toNat⟩ ∧ Value.agg #[.int .i64 a, .int .i64 b, .int .i64 c, .int .i64 d] = (Cm.C.mk a.toNat b.toNat c.toNat d.toNat).val := by
  unfold Cm.okB at h
  have h := of_decide_eq_true h
  refine ⟨⟨?_, ?_, ?_, ?_, ?_, ?_, ?_⟩, ?_⟩
  all_goals first | (simp only; omega) | skip
  unfold Cm.C.val Cm.C.cells
  simp only
  rw [show ((a.toNat : Nat) : Int) = a by omega, show ((b.toNat : Nat) : Int) = b by omega, show ((c.toNat : Nat) : Int) = c by omega, show ((d.toNat : Nat) : Int) = d by omega]

/-- a list of texts and an error, as an answer -/
def Cm.Ret (B : Nat) (w : World) (r : List (List UInt8) × Int) (e : Ending) (w' : World) : Prop :=
  ∃ v, e = .returned (.tuple #[v, .int .i64 r.2]) ∧ w'.ownsRow B 9 1 v r.1.length (r.1.map Cm.str) ∧ Below B w w'

theorem size_list (s : ByteArray) : s.data.toList.length = s.size := by simp


end Go.Proofs.Ytmdakplaaehmnaa
