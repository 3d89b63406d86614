/-
  Contract of slices.Delete at rows: one row taken out of a row of rows of one's own.
-/
import Derived.Test.YtmdakplaaehmnaaJd
import Derived.Test.YtmdakplaaehmnaaIg
namespace Go.Proofs.Ytmdakplaaehmnaa
open Go.RowKit Go.Lib
set_option maxHeartbeats 4000000

set_option maxRecDepth 100000 in
theorem delete_any (B g n c i : Nat) (l : List Im.Rw) (w : World) (ho : RowsOwn w B (.slice (some ⟨g, 0, none⟩) n c) l) (hln : l.length = n) (hn : n ≤ 4096) (hin : i < n) :
    Calls Try.prog 42 #[.slice (some ⟨g, 0, none⟩) n c, .int .i64 i, .int .i64 ((i : Int) + 1)] w fun e w' => ∃ v', e = .returned v' ∧ RowsOwn w' B v' (l.eraseIdx i) ∧ Below B w w' := by
  obtain ⟨i0, hi, hz0, hz1, hz2⟩ := info_parts info_row
  have hown : w.ownsRow B 37 3 (.slice (some ⟨g, 0, none⟩) n c) n (Im.cells l) := by unfold RowsOwn at ho; rw [hln] at ho; exact ho
  have hcn : n ≤ c := World.ownsRow.fits3 hown
  obtain ⟨hgB, hgl⟩ := World.ownsRow.lt hown g rfl
  have hcut := RowsOwn.cut (w := w.drew) ho hln hin
  have hel : (l.eraseIdx i).length = n - 1 := by rw [List.length_eraseIdx, if_pos (by omega), hln]
  obtain ⟨w6, hw6⟩ : ∃ V, w.drew.setCells g (i * 3) (Im.cells (l.drop (i + 1))) = V := ⟨_, rfl⟩
  have hdl : (Im.cells (l.drop (i + 1))).length = (n - (i + 1)) * 3 := by rw [Im.cells_length, List.length_drop, hln]
  have hB6 : Below B w w6 := by rw [← hw6]; exact Below_setCells g _ _ _ (Below.refl B w).drew hgB
  rw [hw6] at hcut
  have hown6 : w6.ownsRow B 37 3 (.slice (some ⟨g, 0, none⟩) (n - 1) c) (n - 1) (Im.cells (l.eraseIdx i)) := by unfold RowsOwn at hcut; rw [hel] at hcut; exact hcut
  obtain ⟨w7, hrun7, ho7, hb7, _, _⟩ := run_clear3 (P := Try.prog) (w := w6) (T := 23) (ty := 0) (z := .agg #[.int .i64 0, .int .i64 0, .string ByteArray.empty]) (z0 := .int .i64 0) (z1 := .int .i64 0) (z2 := .string ByteArray.empty) Try.underlying23 Try.zeroValue37 rfl (by simp [Value.oneCell']) hown6 (by omega) (c - (n - 1))
  have HF := Lib.hid (show RowsOwn w7 B (.slice (some ⟨g, 0, none⟩) (n - 1) c) (l.eraseIdx i) ∧ Below B w w7 from ⟨by unfold RowsOwn; rw [hel]; exact ho7, hB6.trans (hb7.mono hgB)⟩)
  have HR7 := Lib.hid hrun7
  have HW6 := Lib.hid hw6
  have HDL := Lib.hid hdl
  have HSP := Lib.hid (show ∀ j, j < (Im.cells (l.drop (i + 1))).length → (w.drew.cell? ⟨g, i * 3 + j, none⟩).isSome = true ∧ w.drew.frozen? ⟨g, i * 3 + j, none⟩ = false from fun j hj => by
    obtain ⟨u, hu⟩ := World.ownsRow.cellSome3 hown (i * 3 + j) (by rw [hdl] at hj; omega)
    exact ⟨by show (w.cell? _).isSome = true; rw [hu]; rfl, World.ownsRow.frozenAt hown _⟩)
  have HCC := Lib.hid (show ∀ j u, (Im.cells (l.drop (i + 1)))[j]? = some u → w.drew.cell? ((⟨g, (i + 1) * 3, none⟩ : Addr).add j) = some u from fun j u hu => by
    have hj : j < (Im.cells (l.drop (i + 1))).length := (List.getElem?_eq_some_iff.1 hu).1
    rw [Addr.add_lit]
    show w.cell? _ = _
    rw [World.ownsRow.cellAt hown _ (by rw [hdl] at hj; omega)]
    rw [Im.cells_drop, List.getElem?_drop] at hu
    exact hu)
  have q1 : ((i : Int) == (i : Int) + 1) = false := beq_eq_false_iff_ne.2 (by omega)
  have ew3 : ((i : Int) + 1).toNat = i + 1 := by omega
  have k0 : (0 : Int) ≤ (i : Int) := by omega
  have k1 : (0 : Int) ≤ (i : Int) + 1 := by omega
  have k2 : (i : Int) + 1 ≤ (n : Int) := by omega
  have k3 : (i : Int) ≤ (i : Int) + 1 := by omega
  have k4 : (i : Int) ≤ (c : Int) := by omega
  have k5 : ¬ c = i := by omega
  have k6 : (n : Int) ≤ (c : Int) := by omega
  have k7 : (n : Int) - 1 ≤ (n : Int) := by omega
  have k8 : ¬ n = i := by omega
  have k9 : ((n - 1 : Nat) : Int) ≤ (n : Int) := by omega
  have k10 : ¬ c = n - 1 := by omega
  have k11 : n - (n - 1) = 1 := by omega
  have hnn : i + (n - (i + 1)) = n - 1 := by omega
  clear ho hown hcut hel hdl hw6 hB6 hown6 hrun7 ho7 hb7 hln
  by_cases hcp : c = i + 1
  · obtain rfl : n = i + 1 := by omega
    subst hcp
    simp only [Nat.add_sub_cancel, Nat.add_sub_cancel_left] at HR7 HF
    clear k8 k9 k10 k11 hnn k3 k6
    have k6 : (i : Int) ≤ (i : Int) + 1 := by omega
    have k8 : ¬ i + 1 = i := by omega
    go_enter Try.func42, Try.ntmps42
    go_wp2_with fail
    all_goals
      go_region_law (refine step_cut3 rfl (.tmp 22) (.tmp 25) 23 rfl 37 i0 Try.underlying23 hi hz1 g i (i + 1) (by simp [Act.eval, Act.put]) ⟨g, 0, none⟩ 0 0 (Im.cells (l.drop (i + 1))) (by simp [Act.eval, Act.put]) (by rw [HDL.out]; omega) (fun j u hu => absurd (List.getElem?_eq_some_iff.1 hu).1 (by rw [HDL.out]; omega)) (Im.cells_one _) (by omega) HSP.out i (by omega) w6 HW6.out ?_)
      go_wp2_with fail
      rw [HR7.out]
      go_wp2_with fail
      go_ret
      exact ⟨_, rfl, HF.out.1, HF.out.2⟩
  · go_enter Try.func42, Try.ntmps42
    go_wp2_with fail
    all_goals
      go_region_law (refine step_cut3 rfl (.tmp 22) (.tmp 25) 23 rfl 37 i0 Try.underlying23 hi hz1 g i c (by simp [Act.eval, Act.put]) ⟨g, (i + 1) * 3, none⟩ (n - (i + 1)) (c - (i + 1)) (Im.cells (l.drop (i + 1))) (by simp [Act.eval, Act.put]) HDL.out HCC.out (Im.cells_one _) (by omega) HSP.out (n - 1) hnn w6 HW6.out ?_)
      go_wp2_with fail
      rw [HR7.out]
      go_wp2_with fail
      go_ret
      exact ⟨_, rfl, HF.out.1, HF.out.2⟩

end Go.Proofs.Ytmdakplaaehmnaa
