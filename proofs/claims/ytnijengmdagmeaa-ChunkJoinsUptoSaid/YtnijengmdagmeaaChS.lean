/-
  The statements' check of the chapter's example.
-/
import Derived.Test.YtnijengmdagmeaaChE
namespace Go.Proofs.Ytnijengmdagmeaa
open Go.RowKit
set_option maxHeartbeats 1000000

theorem Cm.sane_cut : Cm.cutV 4 6 1 1 [97, 98, 99, 100, 101, 102, 103, 104, 105, 106] = ([[97, 98, 99, 100], [101, 102, 103, 104], [105, 106]], 0) := by
  have hf : ∀ s : List UInt8, s ≠ [] → Cm.fl ⟨4, 6, 1, 1⟩ s = min 4 s.length := fun s _ => Cm.fl_one (c := ⟨4, 6, 1, 1⟩) ⟨by decide, by decide, by decide, by decide, by decide, by decide, by decide⟩ rfl s
  have hc : Cm.cut ⟨4, 6, 1, 1⟩ [97, 98, 99, 100, 101, 102, 103, 104, 105, 106] = [[97, 98, 99, 100], [101, 102, 103, 104], [105, 106]] := by
    unfold Cm.cut
    rw [Cm.cut_fixed 4 hf]
    rfl
  unfold Cm.cutV
  rw [if_pos (by decide)]
  show Cm.cutR ⟨4, 6, 1, 1⟩ _ = _
  unfold Cm.cutR
  rw [hc, if_pos (by decide)]

set_option maxRecDepth 100000 in
theorem csane_any (w : World) :
    Calls Try.prog 9 #[] w fun e w' => e = .returned (.bool true) ∧ Below w.heap.size w w' := by
  have C1 := Lib.hid (fun V => (by
    have h := cut_any ⟨#[97, 98, 99, 100, 101, 102, 103, 104, 105, 106]⟩ 4 6 1 1 V (by decide)
    rw [show (⟨#[97, 98, 99, 100, 101, 102, 103, 104, 105, 106]⟩ : ByteArray).data.toList = [97, 98, 99, 100, 101, 102, 103, 104, 105, 106] from rfl, Cm.sane_cut] at h
    exact h : Calls Try.prog 16 #[.string ⟨#[97, 98, 99, 100, 101, 102, 103, 104, 105, 106]⟩, .agg #[.int .i64 4, .int .i64 6, .int .i64 1, .int .i64 1]] V fun e w' => ∃ v, e = .returned (.tuple #[v, .int .i64 0]) ∧ w'.ownsRow V.heap.size 9 1 v 3 [.string ⟨#[97, 98, 99, 100]⟩, .string ⟨#[101, 102, 103, 104]⟩, .string ⟨#[105, 106]⟩] ∧ Below V.heap.size V w'))
  have W1 := Lib.hid (fun V => (by
    have h := weight_any ⟨#[97, 98]⟩ 2 V (by decide) (by decide) (by decide)
    rw [show (⟨#[97, 98]⟩ : ByteArray).data.toList = [97, 98] from rfl, show Cm.wt [97, 98] (2 : Int).toNat = 296 from by decide] at h
    exact h : Calls Try.prog 25 #[.string ⟨#[97, 98]⟩, .int .i64 2] V fun e w' => e = .returned (.int .i64 296) ∧ V = w'))
  go_enter Try.func9, Try.ntmps9
  go_wp2_with fail
  refine (C1.out _).mono ?_
  rintro e w2 ⟨v, rfl, hown, hB2⟩
  obtain ⟨A, cc, rfl, hci⟩ := own_cells hown
  obtain ⟨g, o, rfl, hg, hz, g0⟩ := hci.at (i := 0) (by decide)
  obtain ⟨g', o', e1, hg', hz', g2⟩ := hci.at (i := 2) (by decide)
  injection e1 with e1
  injection e1 with e1 e2
  subst e1 e2
  have q0 : w2.cell? ⟨g, o, none⟩ = some (.string ⟨#[97, 98, 99, 100]⟩) := g0
  have q2 : w2.cell? ⟨g, o + 2, none⟩ = some (.string ⟨#[105, 106]⟩) := g2
  clear hci hown g0 g2
  go_wp2_with fail
  refine (W1.out _).mono ?_
  rintro e w3 ⟨rfl, rfl⟩
  go_wp2
  go_ret
  exact ⟨rfl, hB2⟩

end Go.Proofs.Ytnijengmdagmeaa
