/-
  The sanity check of layer 1; WireInts, WireOne: their walks.
-/
import Derived.Test.YtogoibpkohcgbaaWireB
namespace Go.Proofs.Ytogoibpkohcgbaa
open Go.RowKit
set_option maxHeartbeats 1000000

theorem Wm.sane1 : Wm.int [128, 1] 0 = (64, 2, 0) := by decide
theorem Wm.sane2 : Wm.int [128, 0] 0 = (0, 0, 2) := by decide
theorem Wm.sane3 : Wm.str ((⟨#[]⟩ : ByteArray).data.toList ++ Wm.encI 64) = .string ⟨#[128, 1]⟩ := by
  have : Wm.encI 64 = [128, 1] := by decide
  rw [this]; rfl
theorem Wm.sane4 : Wm.str ((⟨#[97]⟩ : ByteArray).data.toList ++ Wm.encI (-1)) = .string ⟨#[97, 1]⟩ := by
  have : Wm.encI (-1) = [1] := by decide
  rw [this]; rfl

theorem sane_any (w : World) : Calls Try.prog 8 #[] w fun e w' => e = .returned (.bool true) ∧ Below w.heap.size w w' := by
  go_enter Try.func8, Try.ntmps8
  go_wp2_with fail
  refine (int_any ⟨#[128, 1]⟩ 0 _ (by decide)).mono ?_
  rintro e w' ⟨rfl, rfl⟩
  rw [show (⟨#[128, 1]⟩ : ByteArray).data.toList = [128, 1] from rfl, Wm.sane1]
  unfold Wm.val
  go_wp2_with fail
  refine (int_any ⟨#[128, 0]⟩ 0 _ (by decide)).mono ?_
  rintro e w' ⟨rfl, rfl⟩
  rw [show (⟨#[128, 0]⟩ : ByteArray).data.toList = [128, 0] from rfl, Wm.sane2]
  unfold Wm.val
  go_wp2_with fail
  refine (put_any ⟨#[]⟩ 64 _ (by decide) (by decide) (by decide)).mono ?_
  rintro e w1 ⟨rfl, hB1⟩
  rw [Wm.sane3]
  go_wp2_with fail
  refine (put_any ⟨#[97]⟩ (-1) _ (by decide) (by decide) (by decide)).mono ?_
  rintro e w2 ⟨rfl, hB2⟩
  rw [Wm.sane4]
  go_wp2_with fail
  go_ret
  exact ⟨rfl, hB1.trans (hB2.mono hB1.size)⟩

end Go.Proofs.Ytogoibpkohcgbaa
