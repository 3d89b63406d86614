/-
  The sanity check of layer 1; WireInts, WireOne: their walks.
-/
import Derived.Test.YtogaljgekaogkaaWireB
namespace Go.Proofs.Ytogaljgekaogkaa
open Go.RowKit
set_option maxHeartbeats 1000000

theorem Wm.sane1 : Wm.int [128, 1] 0 = (64, 2, 0) := by decide
theorem Wm.sane2 : Wm.int [128, 0] 0 = (0, 0, 2) := by decide
theorem Wm.sane3 : Wm.str ((⟨#[]⟩ : ByteArray).data.toList ++ Wm.encI 64) = .string ⟨#[128, 1]⟩ := by
  have : Wm.encI 64 = [128, 1] := by decide
  rw [this]; rfl
theorem Wm.sane4 : Wm.str ((⟨#[97]⟩ : ByteArray).data.toList ++ Wm.encI (-1)) = .string ⟨#[97, 1]⟩ := by
  have : Wm.encI (-1) = [1] := by decide
  rw [this]; rfl

theorem sane_any (w : World) : Calls Try.prog 5 #[] w fun e w' => e = .returned (.bool true) ∧ Below w.heap.size w w' := by
  go_enter Try.func5, Try.ntmps5
  go_wp2_with fail
  refine (int_any ⟨#[128, 1]⟩ 0 _ (by decide)).mono ?_
  rintro e w' ⟨rfl, rfl⟩
  rw [show (⟨#[128, 1]⟩ : ByteArray).data.toList = [128, 1] from rfl, Wm.sane1]
  unfold Wm.val
  go_wp2_with fail
  refine (int_any ⟨#[128, 0]⟩ 0 _ (by decide)).mono ?_
  rintro e w' ⟨rfl, rfl⟩
  rw [show (⟨#[128, 0]⟩ : ByteArray).data.toList = [128, 0] from rfl, Wm.sane2]
  unfold Wm.val
  go_wp2_with fail
  refine (put_any ⟨#[]⟩ 64 _ (by decide) (by decide) (by decide)).mono ?_
  rintro e w1 ⟨rfl, hB1⟩
  rw [Wm.sane3]
  go_wp2_with fail
  refine (put_any ⟨#[97]⟩ (-1) _ (by decide) (by decide) (by decide)).mono ?_
  rintro e w2 ⟨rfl, hB2⟩
  rw [Wm.sane4]
  go_wp2_with fail
  go_ret
  exact ⟨rfl, hB1.trans (hB2.mono hB1.size)⟩

/-- PutInt onto nothing, the answer under another name -/
theorem put_as (x : Int) (h0 : -9223372036854775808 ≤ x) (h1 : x ≤ 9223372036854775807) (t : ByteArray) (ht : t.data.toList = Wm.encI x) (W : World) :
    Calls Try.prog 8 #[.string ⟨#[]⟩, .int .i64 x] W fun e w' => e = .returned (.string t) ∧ Below W.heap.size W w' := by
  have e1 : Wm.str ((⟨#[]⟩ : ByteArray).data.toList ++ Wm.encI x) = .string t := by
    unfold Wm.str
    congr 1
    apply ByteArray.ext
    apply Array.toList_inj.1
    simp [ht]
  rw [← e1]
  exact put_any ⟨#[]⟩ x W (by decide) h0 h1

end Go.Proofs.Ytogaljgekaogkaa
