/-
  The sanity check of layer 1; WireInts, WireOne: their walks.
-/
import Derived.Test.YtapmdneepinbgaaWireB
namespace Go.Proofs.Ytapmdneepinbgaa
open Go.RowKit
set_option maxHeartbeats 1000000

theorem Wm.sane1 : Wm.int [128, 1] 0 = (64, 2, 0) := by decide
theorem Wm.sane2 : Wm.int [128, 0] 0 = (0, 0, 2) := by decide
theorem Wm.sane3 : Wm.str ((⟨#[]⟩ : ByteArray).data.toList ++ Wm.encI 64) = .string ⟨#[128, 1]⟩ := by
  have : Wm.encI 64 = [128, 1] := by decide
  rw [this]; rfl
theorem Wm.sane4 : Wm.str ((⟨#[97]⟩ : ByteArray).data.toList ++ Wm.encI (-1)) = .string ⟨#[97, 1]⟩ := by
  have : Wm.encI (-1) = [1] := by decide
  rw [this]; rfl

/-- PutInt onto nothing, the answer under another name -/
theorem put_as (x : Int) (h0 : -9223372036854775808 ≤ x) (h1 : x ≤ 9223372036854775807) (t : ByteArray) (ht : t.data.toList = Wm.encI x) (W : World) :
    Calls Try.prog 42 #[.string ⟨#[]⟩, .int .i64 x] W fun e w' => e = .returned (.string t) ∧ Below W.heap.size W w' := by
  have e1 : Wm.str ((⟨#[]⟩ : ByteArray).data.toList ++ Wm.encI x) = .string t := by
    unfold Wm.str
    congr 1
    apply ByteArray.ext
    apply Array.toList_inj.1
    simp [ht]
  rw [← e1]
  exact put_any ⟨#[]⟩ x W (by decide) h0 h1

/-- the same, onto any text, of either program -/
theorem put_on (s : ByteArray) (x : Int) (h0 : -9223372036854775808 ≤ x) (h1 : x ≤ 9223372036854775807) (t : ByteArray) (ht : t.data.toList = s.data.toList ++ Wm.encI x) (hs : s.size ≤ 9223372036854775000) (W : World) :
    Calls Try.prog 42 #[.string s, .int .i64 x] W fun e w' => e = .returned (.string t) ∧ Below W.heap.size W w' := by
  have e1 : Wm.str (s.data.toList ++ Wm.encI x) = .string t := by
    unfold Wm.str
    congr 1
    apply ByteArray.ext
    apply Array.toList_inj.1
    simp [ht]
  rw [← e1]
  exact put_any s x W hs h0 h1
theorem rput_on (s : ByteArray) (x : Int) (h0 : -9223372036854775808 ≤ x) (h1 : x ≤ 9223372036854775807) (t : ByteArray) (ht : t.data.toList = s.data.toList ++ Wm.encI x) (hs : s.size ≤ 9223372036854775000) (W : World) :
    Calls Try.prog 36 #[.string s, .int .i64 x] W fun e w' => e = .returned (.string t) ∧ Below W.heap.size W w' := by
  have e1 : Wm.str (s.data.toList ++ Wm.encI x) = .string t := by
    unfold Wm.str
    congr 1
    apply ByteArray.ext
    apply Array.toList_inj.1
    simp [ht]
  rw [← e1]
  exact rput_any s x W hs h0 h1

end Go.Proofs.Ytapmdneepinbgaa
