/-
  Contract of the reference of device: with.
-/
import Derived.Test.YthdkidiemhfffaaDg
import Derived.Deep.AppendLies
namespace Go.Proofs.Ythdkidiemhfffaa
open Go.RowKit
set_option maxHeartbeats 2000000

theorem Dv.way_at {t : Int} : ∀ {D : List Int} {j : Nat}, j ≤ D.length → (∀ q (h : q < D.length), q < j → D[q] < t) → (∀ h : j < D.length, ¬ D[j] < t) →
    D.take j = D.takeWhile (fun x => decide (x < t)) ∧ D.drop j = D.dropWhile (fun x => decide (x < t))
  | [], j, _, _, _ => by simp
  | x :: r, 0, _, _, h2 => by
    have h : ¬ x < t := h2 (by simp)
    have e : decide (x < t) = false := by simpa using h
    simp [e]
  | x :: r, j + 1, hj, h1, h2 => by
    have h : x < t := h1 0 (by simp) (by omega)
    have e : decide (x < t) = true := by simpa using h
    obtain ⟨a, b⟩ := Dv.way_at (t := t) (D := r) (j := j) (by simpa using hj) (fun q hq hqj => by have := h1 (q + 1) (by simpa using hq) (by omega); simpa using this) (fun hq => by have := h2 (by simpa using hq); simpa using this)
    simp [e, a, b]

theorem Dv.fits {w : World} {base : Nat} {e : TypeId} {size g n cap : Nat} {xs : List Value} (h : w.ownsRow base e size (.slice (some ⟨g, 0, none⟩) n cap) n xs) : n ≤ cap := by
  rcases h.2 with ⟨h', _⟩ | ⟨g', cap', cur, h', _, _, hnc, _⟩
  · simp at h'
  · simp only [Value.slice.injEq, Option.some.injEq, Addr.mk.injEq, and_true, true_and] at h'
    obtain ⟨rfl, rfl⟩ := h'
    exact hnc

set_option maxRecDepth 100000 in
theorem rinsD_any (A : Option Addr) (n c : Nat) (l : List Int) (t : Int) (w : World) (hl : SlIn w A n c (Dv.ints l)) (hn : n ≤ 1024) (ha : l.Pairwise (· < ·)) :
    Calls Try.prog 33 #[.slice A n c, .int .i64 t] w fun e w' => ∃ v, e = .returned v ∧ w'.ownsRow w.heap.size 3 1 v (Dv.ins l t).length (Dv.ints (Dv.ins l t)) ∧ Below w.heap.size w w' := by
  obtain ⟨i0, hi, hz0, hz1, hz2⟩ := info_parts info_int'
  have hll : l.length = n := by rw [← hl.1.1, List.length_map]
  obtain ⟨D, hD⟩ : ∃ D, Dv.del l t = D := ⟨_, rfl⟩
  have hDl : D.length ≤ 1024 := by
    rw [← hD]; unfold Dv.del
    have := List.length_filter_le (fun x => decide (x ≠ t)) l
    simp at this ⊢; omega
  have HC := Lib.hid (hD ▸ rdelD_any A n c l t w hl hn)
  have hway := Dv.ins_way ha t
  rw [hD] at hway
  have HIN := Lib.hid (show ∀ (W : World) (v : Value) (j k : Nat), (j ≤ D.length ∧ (∀ q (h : q < D.length), q < j → D[q] < t) ∧ ∀ h : j < D.length, ¬ D[j] < t) → W.ownsRow w.heap.size 3 1 v k ((Dv.ints D).take j ++ .int .i64 t :: (Dv.ints D).drop j) → W.ownsRow w.heap.size 3 1 v (Dv.ins l t).length (Dv.ints (Dv.ins l t)) from by
    intro W v j k ⟨h1, h2, h3⟩ h
    obtain ⟨e1, e2⟩ := Dv.way_at h1 h2 h3
    have e3 : (Dv.ints D).take j ++ .int .i64 t :: (Dv.ints D).drop j = Dv.ints (Dv.ins l t) := by
      rw [← hway, ← e1, ← e2]; simp [Dv.ints]
    rw [e3] at h
    have e4 : k = (Dv.ins l t).length := by have := h.1; simp [Dv.ints] at this; omega
    rw [← e4]; exact h)
  obtain ⟨m, hm⟩ : ∃ m, D.length = m := ⟨_, rfl⟩
  obtain ⟨B, hB⟩ : ∃ B, w.heap.size = B := ⟨_, rfl⟩
  rw [hB] at HC HIN
  rw [hm] at HC hDl
  have HM := Lib.hid hm
  rw [hB]
  clear hl hll hD hway ha hm
  go_enter Try.func33, Try.ntmps33
  go_wp2_with fail
  refine HC.out.mono ?_
  rintro e w1 ⟨v, rfl, hown, hb1⟩
  obtain ⟨A', c', rfl⟩ := own_slice hown
  have hs1 := hb1.size
  rw [hB] at hs1
  have HRR := Lib.hid (fun k => (own_below hown (Dv.bq (n := k) (Below.refl _ w1)) : (w1.drewN k).ownsRow B 3 1 (.slice A' m c') m (Dv.ints D)))
  have HRD := Lib.hid (CellsIn.own hown)
  have HB1 := Lib.hid hb1
  clear hown hb1 hB
  go_wp2_with fail
  go_loopw [5] (fun i wr => ∃ j : Nat, j ≤ m ∧ i = .int .i64 j ∧ (∀ q (h : q < D.length), q < j → D[q] < t) ∧ ∃ q, wr = w1.drewN q) (fun i _ => m - (intOf i).toNat)
  case atStart => exact ⟨0, by omega, rfl, fun q _ h => absurd h (by omega), 0, rfl⟩
  case round =>
    obtain ⟨j, hj, rfl, hlo, q, rfl⟩ := hrel
    have HLO := Lib.hid hlo
    clear hlo
    by_cases hlt : j < m
    · obtain ⟨b, o, rfl, hbl, hz, g1⟩ := HRD.out.at hlt
      have hkl : j < D.length := by rw [HM.out]; exact hlt
      rw [List.getElem_map] at g1
      obtain ⟨x, hx⟩ : ∃ x, D[j] = x := ⟨_, rfl⟩
      rw [hx] at g1
      have j0 : (0 : Int) ≤ (j : Int) := by omega
      have j1 : (j : Int) < (m : Int) := by omega
      have d0 : decide ((j : Int) < (m : Int)) = true := by simpa using hlt
      have HX := Lib.hid (show ∃ h : j < D.length, D[j] = x from ⟨hkl, hx⟩)
      clear hx hz hkl
      by_cases he : x < t
      · have d1 : decide (x < t) = true := by simpa using he
        have HLO2 := Lib.hid (show ∀ q (h : q < D.length), q < j + 1 → D[q] < t from fun q h hq => by
          by_cases e : q = j
          · subst e; rw [HX.out.2]; exact he
          · exact HLO.out q h (by omega))
        clear he
        go_wp2_with fail
        go_roundw
        case rel => exact ⟨j + 1, by omega, by go_num, HLO2.out, _, rfl⟩
        case measure => simp [intOf]; omega
      · have d1 : decide (x < t) = false := by simpa using he
        have HWAY : (j ≤ D.length ∧ (∀ q (h : q < D.length), q < j → D[q] < t) ∧ ∀ h : j < D.length, ¬ D[j] < t) := ⟨by rw [HM.out]; exact hj, HLO.out, fun h => by rw [HX.out.2]; exact he⟩
        clear he
        go_wp2_with (at_builtin; refine wpList_append_lies _ rfl _ _ 22 rfl B 3 i0 (.int .i64 0) 1 8 Try.underlying22 hi hz0 hz1 hz2 rfl (by decide) _ _ _ rfl (World.ownsRow.alloc (HRR.out _) _) ⟨(w1.drewN q).heap.size, 0, none⟩ 1 1 [.int .i64 0] rfl rfl (cell_one_new _ _ _) (by simp [Value.oneCell']) (by omega) (by unfold maxLen; omega) (by omega) (by simp; omega) _ rfl ?_; intro g4 cap4 w5 hown5 hgrow5 hat5 hlt5; have HO5 := Lib.hid hown5; have HG5 := Lib.hid hgrow5; have HA5 := Lib.hid hat5; clear hown5 hgrow5 hat5)
        have hcap : m + 1 ≤ cap4 := (Dv.fits HO5.out)
        have ew : IntKind.i64.wrap ((j : Int) + 1) = (j : Int) + 1 := by rw [IntKind.wrap_i64]; omega
        have ew3 : ((j : Int) + 1).toNat = j + 1 := by omega
        have k1 : (0 : Int) ≤ (j : Int) + 1 := by omega
        have k2 : (j : Int) + 1 ≤ (m : Int) + 1 := by omega
        have k3 : (0 : Int) ≤ (j : Int) := by omega
        have k4 : (j : Int) ≤ (m : Int) + 1 := by omega
        have k6 : (j : Int) < (m : Int) + 1 := by omega
        have k5 : ¬ cap4 = j := by omega
        have hBg : B ≤ g4 := (World.ownsRow.lt HO5.out g4 rfl).1
        have HB5 := Lib.hid (show Below B w w5 from (grown_below HG5.out (show Below B w (w1.drewN q) from Dv.bq HB1.out) (by simp; omega) (fun b hb => (World.ownsRow.lt (HRR.out 0) _ hb).1)))
        by_cases hcp : cap4 = j + 1
        · omega
        · obtain ⟨w6, hrun, ho6, hb6, hk6⟩ := Dv.own_shift (P := Try.prog) (w := w5.drew) (T := 22) (ty := 3) Try.underlying22 hi hz1 (by rw [List.length_map, HM.out]) HO5.out (Dv.ints_one _) hj (some ⟨g4, j + 1, none⟩) (cap4 - (j + 1)) (cap4 - j) (fun _ => rfl)
          have HRUN := Lib.hid hrun
          obtain ⟨s0, r0⟩ := Dv.cellSome ho6 j (by omega)
          have f0 := World.ownsRow.frozenAt ho6 j
          have HO6 := Lib.hid ho6
          have HB6 := Lib.hid hb6
          clear hrun ho6 hb6 hk6
          go_region_law (refine Dv.step_copy_known rfl (.tmp 29) (.tmp 32) 22 rfl _ _ _ w6 (by simp [Act.eval, Act.put]) (by simp [Act.eval, Act.put]) HRUN.out ?_)
          have HO7 := Lib.hid (show (w6.setCell ⟨g4, j, none⟩ (.int .i64 t)).ownsRow B 3 1 (.slice (some ⟨g4, 0, none⟩) (m + 1) cap4) (Dv.ins l t).length (Dv.ints (Dv.ins l t)) from by
            have h := (World.ownsRow.stored HO6.out j (.int .i64 t)).1
            rw [Dv.shifted_set _ _ (by rw [List.length_map, HM.out]) (by omega)] at h
            exact HIN.out _ _ _ _ HWAY h)
          have HB7 := Lib.hid (show Below B w (w6.setCell ⟨g4, j, none⟩ (.int .i64 t)) from (HB5.out.drew.trans (HB6.out.mono hBg)).setCell (by show B ≤ g4; omega) _)
          go_wp2_with fail
          go_ret
          exact ⟨_, rfl, HO7.out, HB7.out⟩
    · obtain hje : j = m := by omega
      have d0 : decide ((j : Int) < (m : Int)) = false := by simpa using hlt
      have HWAY : (j ≤ D.length ∧ (∀ q (h : q < D.length), q < j → D[q] < t) ∧ ∀ h : j < D.length, ¬ D[j] < t) := ⟨by rw [HM.out]; exact hj, HLO.out, fun h => absurd h (by rw [HM.out]; omega)⟩
      clear hje
      go_wp2_with (at_builtin; refine wpList_append_lies _ rfl _ _ 22 rfl B 3 i0 (.int .i64 0) 1 8 Try.underlying22 hi hz0 hz1 hz2 rfl (by decide) _ _ _ rfl (World.ownsRow.alloc (HRR.out _) _) ⟨(w1.drewN q).heap.size, 0, none⟩ 1 1 [.int .i64 0] rfl rfl (cell_one_new _ _ _) (by simp [Value.oneCell']) (by omega) (by unfold maxLen; omega) (by omega) (by simp; omega) _ rfl ?_; intro g4 cap4 w5 hown5 hgrow5 hat5 hlt5; have HO5 := Lib.hid hown5; have HG5 := Lib.hid hgrow5; have HA5 := Lib.hid hat5; clear hown5 hgrow5 hat5)
      have hcap : m + 1 ≤ cap4 := (Dv.fits HO5.out)
      have ew : IntKind.i64.wrap ((j : Int) + 1) = (j : Int) + 1 := by rw [IntKind.wrap_i64]; omega
      have ew3 : ((j : Int) + 1).toNat = j + 1 := by omega
      have k1 : (0 : Int) ≤ (j : Int) + 1 := by omega
      have k2 : (j : Int) + 1 ≤ (m : Int) + 1 := by omega
      have k3 : (0 : Int) ≤ (j : Int) := by omega
      have k4 : (j : Int) ≤ (m : Int) + 1 := by omega
      have k6 : (j : Int) < (m : Int) + 1 := by omega
      have k5 : ¬ cap4 = j := by omega
      have hBg : B ≤ g4 := (World.ownsRow.lt HO5.out g4 rfl).1
      have HB5 := Lib.hid (show Below B w w5 from (grown_below HG5.out (show Below B w (w1.drewN q) from Dv.bq HB1.out) (by simp; omega) (fun b hb => (World.ownsRow.lt (HRR.out 0) _ hb).1)))
      by_cases hcp : cap4 = j + 1
      · obtain rfl : j = m := by omega
        subst hcp
        obtain ⟨w6, hrun, ho6, hb6, hk6⟩ := Dv.own_shift (P := Try.prog) (w := w5.drew) (T := 22) (ty := 3) Try.underlying22 hi hz1 (by rw [List.length_map, HM.out]) HO5.out (Dv.ints_one _) (Nat.le_refl _) (some ⟨g4, 0, none⟩) 0 1 (fun h => absurd h (by omega))
        rw [Nat.sub_self, Nat.add_sub_cancel_left] at hrun
        have HRUN := Lib.hid hrun
        obtain ⟨s0, r0⟩ := Dv.cellSome ho6 j (by omega)
        have f0 := World.ownsRow.frozenAt ho6 j
        have HO6 := Lib.hid ho6
        have HB6 := Lib.hid hb6
        clear hrun ho6 hb6 hk6
        go_region_law (refine Dv.step_copy_known rfl (.tmp 29) (.tmp 32) 22 rfl _ _ _ w6 (by simp [Act.eval, Act.put]) (by simp [Act.eval, Act.put]) HRUN.out ?_)
        have HO7 := Lib.hid (show (w6.setCell ⟨g4, j, none⟩ (.int .i64 t)).ownsRow B 3 1 (.slice (some ⟨g4, 0, none⟩) (j + 1) (j + 1)) (Dv.ins l t).length (Dv.ints (Dv.ins l t)) from by
          have h := (World.ownsRow.stored HO6.out j (.int .i64 t)).1
          rw [Dv.shifted_set _ _ (by rw [List.length_map, HM.out]) (by omega)] at h
          exact HIN.out _ _ _ _ HWAY h)
        have HB7 := Lib.hid (show Below B w (w6.setCell ⟨g4, j, none⟩ (.int .i64 t)) from (HB5.out.drew.trans (HB6.out.mono hBg)).setCell (by show B ≤ g4; omega) _)
        go_wp2_with fail
        go_ret
        exact ⟨_, rfl, HO7.out, HB7.out⟩
      · obtain ⟨w6, hrun, ho6, hb6, hk6⟩ := Dv.own_shift (P := Try.prog) (w := w5.drew) (T := 22) (ty := 3) Try.underlying22 hi hz1 (by rw [List.length_map, HM.out]) HO5.out (Dv.ints_one _) hj (some ⟨g4, j + 1, none⟩) (cap4 - (j + 1)) (cap4 - j) (fun _ => rfl)
        have HRUN := Lib.hid hrun
        obtain ⟨s0, r0⟩ := Dv.cellSome ho6 j (by omega)
        have f0 := World.ownsRow.frozenAt ho6 j
        have HO6 := Lib.hid ho6
        have HB6 := Lib.hid hb6
        clear hrun ho6 hb6 hk6
        go_region_law (refine Dv.step_copy_known rfl (.tmp 29) (.tmp 32) 22 rfl _ _ _ w6 (by simp [Act.eval, Act.put]) (by simp [Act.eval, Act.put]) HRUN.out ?_)
        have HO7 := Lib.hid (show (w6.setCell ⟨g4, j, none⟩ (.int .i64 t)).ownsRow B 3 1 (.slice (some ⟨g4, 0, none⟩) (m + 1) cap4) (Dv.ins l t).length (Dv.ints (Dv.ins l t)) from by
          have h := (World.ownsRow.stored HO6.out j (.int .i64 t)).1
          rw [Dv.shifted_set _ _ (by rw [List.length_map, HM.out]) (by omega)] at h
          exact HIN.out _ _ _ _ HWAY h)
        have HB7 := Lib.hid (show Below B w (w6.setCell ⟨g4, j, none⟩ (.int .i64 t)) from (HB5.out.drew.trans (HB6.out.mono hBg)).setCell (by show B ≤ g4; omega) _)
        go_wp2_with fail
        go_ret
        exact ⟨_, rfl, HO7.out, HB7.out⟩

end Go.Proofs.Ythdkidiemhfffaa
