/-
  What a seat's own types are; a copy of a string is the string.
-/
import Derived.Test.YtebkgndcgcdogaaRows
import Derived.Test.YtebkgndcgcdogaaKit
import Derived.WalkKit
import Derived.Handy
import Derived.BigQuiet
import Derived.Deep.QuietTactic
import Derived.Lib.Hide
import Derived.Lib.BufferWrite
import Derived.Lib.UnsafeStr
import Derived.Laws.MakeOwn
import Derived.OwnWalk
import Derived.Maps.AppendAt
namespace Go.Proofs.Ytebkgndcgcdogaa
open Go.RowKit
set_option maxHeartbeats 1000000

theorem info_u8 : (Try.prog.info? 5).map (fun i => (i.zero, i.size, i.bytes)) = some (some (.int .u8 0), 1, 1) := by kernel_rfl

theorem info_str : (Try.prog.info? 9).map (fun i => (i.zero, i.size, i.bytes)) = some (some (.string ByteArray.empty), 1, 16) := by kernel_rfl

theorem cells_u8 : Try.prog.cellsOf 5 = 1 := by kernel_rfl

/-- a byte as a value -/
abbrev Wm.u8 (x : UInt8) : Value := .int .u8 (x.toNat : Int)

/-- string(b) of a row of one's own -/
theorem Wm.conv_own {n₀ : Nat} {v : Value} {xs : List UInt8} {k : Nat} {W : World} (h : W.ownsRow n₀ 5 1 v k (xs.map Wm.u8)) :
    (convert 51 9 v).run Try.prog W = .ok (.string ⟨xs.toArray⟩) W := by
  have hl : xs.length = k := by have := h.1; simpa using this
  rcases h.2 with ⟨rfl, hz⟩ | ⟨g, cap, cur, rfl, _, _, _, _, _, _⟩
  · obtain rfl : xs = [] := List.eq_nil_of_length_eq_zero (by omega)
    exact run_convert_bytes_nil W 51 5 Try.underlying51 Try.underlying5 0 0 9 Try.underlying9
  · rw [← hl]
    exact run_convert_bytes_back (P := Try.prog) W 51 9 5 ⟨g, 0, none⟩ cap xs Try.underlying51 Try.underlying5 Try.underlying9
      (fun j hj => h.cells rfl j _ (by rw [List.getElem?_map, List.getElem?_eq_getElem hj]; rfl))

end Go.Proofs.Ytebkgndcgcdogaa
