/-
  Contracts of the reference of manifest: without, Change.
-/
import Derived.Test.YtebkgndcgcdogaaVd
import Derived.Test.YtebkgndcgcdogaaCopy
import Derived.Deep.AppendLies
import Derived.Deep.RegionLaw
namespace Go.Proofs.Ytebkgndcgcdogaa
open Go.RowKit
set_option maxHeartbeats 2000000

set_option maxRecDepth 100000 in
theorem rwithout_any (A A' : Option Addr) (n n' c c' : Nat) (a b : List Vm.Nm) (w : World) (ha : NamesIn w A n c a) (hb : NamesIn w A' n' c' b) (hn : n ≤ 256) (hn' : n' ≤ 256) :
    Calls Try.prog 50 #[.slice A n c, .slice A' n' c'] w fun e w' => ∃ v, e = .returned v ∧ NamesOwn w' w.heap.size v (Vm.wo a b) ∧ Below w.heap.size w w' := by
  obtain ⟨i0, hi, hz0, hz1, hz2⟩ := info_parts info_name
  have HA := Lib.hid ha
  have HB := Lib.hid hb
  clear ha hb
  go_enter Try.func50, Try.ntmps50
  go_wp2_with fail
  obtain ⟨B, hBB⟩ : ∃ B, w.heap.size = B := ⟨_, rfl⟩
  have HBB := Lib.hid hBB
  go_loopw [5, 11] (fun v i wr => ∃ (k : Nat) (o : List Vm.Nm), k ≤ n ∧ i = .int .i64 k ∧ NamesOwn wr B v o ∧ Below B w wr ∧ Vm.IsWo (a.take k) b o) (fun v i _ => n - (intOf i).toNat)
  case atStart => exact ⟨0, [], by omega, rfl, NamesOwn.nil _ _, Below.refl _ _, Vm.IsWo.nil b⟩
  case round =>
    obtain ⟨k, o, hk, rfl, hrow, hBr, hwo⟩ := hrel
    have hsz := hBr.size
    rw [hBB] at hsz
    by_cases hlt : k < n
    · have d8 : decide ((k : Int) < (n : Int)) = true := by simp; omega
      obtain ⟨g, q, rfl, hg, hz, y0, y1⟩ := HA.out.at hlt
      have z0 := (hBr.cell (p := ⟨g, q + k * 2, none⟩) (by rw [← hBB]; exact hg)).trans y0
      have z1 := (hBr.cell (p := ⟨g, q + k * 2 + 1, none⟩) (by rw [← hBB]; exact hg)).trans y1
      obtain ⟨x, hx⟩ : ∃ x, a[k] = x := ⟨_, rfl⟩
      rw [hx] at z0 z1
      have hol : o.length ≤ k := by have := hwo.len; rw [List.length_take] at this; omega
      have hak : a.take (k + 1) = a.take k ++ [x] := by rw [List.take_succ_eq_append_getElem hz, hx]
      obtain ⟨A2, c2, hv2, hni⟩ := own_names hrow
      have HNI := Lib.hid hni
      have HROW := Lib.hid hrow
      have HWO := Lib.hid hwo
      have HAK := Lib.hid hak
      have HBR := Lib.hid hBr
      obtain ⟨m, hm⟩ : ∃ m, o.length = m := ⟨_, rfl⟩
      have HM := Lib.hid hm
      rw [hm] at hol hv2
      have HV2 := Lib.hid hv2
      obtain ⟨x0, x1⟩ := x
      simp only at z0 z1
      have hnb : (wr.alloc (.cells #[Value.int .i64 x0, .int .i64 x1] 59)).heap[wr.heap.size]? = some (.cells #[Value.int .i64 x0, .int .i64 x1] 59 (0, 0)) := heap_alloc_new _ _
      obtain ⟨nb, hnbe⟩ : ∃ nb, wr.heap.size = nb := ⟨_, rfl⟩
      obtain ⟨wa, hwa⟩ : ∃ V, wr.alloc (.cells #[Value.int .i64 x0, .int .i64 x1] 59) = V := ⟨_, rfl⟩
      have hba : Below nb wr wa := by rw [← hwa, ← hnbe]; exact (Below.refl _ _).alloc (Nat.le_refl _) _
      have hsa : wa.heap.size = nb + 1 := by rw [← hwa]; simp [hnbe]
      rw [hnbe, hwa] at hnb
      have n0 : wa.cell? ⟨nb, 0, none⟩ = some (.int .i64 x0) := by simp [World.cell?, hnb]
      have n1 : wa.cell? ⟨nb, 1, none⟩ = some (.int .i64 x1) := by simp [World.cell?, hnb]
      have H1 := Lib.hid (fun V h => rhasV_any A' n' c' b (x0, x1) V h (by omega))
      have H2 := Lib.hid (fun V h => rhasV_any A2 m c2 o (x0, x1) V h (by omega))
      have HWA := Lib.hid hwa
      have HNBE := Lib.hid hnbe
      have HNB := Lib.hid hnb
      have hBa : Below B w wa := by rw [← hwa]; exact hBr.alloc hsz _
      have HBA := Lib.hid hBa
      have HBA2 := Lib.hid hba
      have hba2 : NamesIn wa A' n' c' b := HB.out.below (hBa.mono (by omega))
      have HB2 := Lib.hid hba2
      have HNI2 := Lib.hid (show NamesIn wa A2 m c2 o from by rw [← hm]; exact hni.below (by rw [hnbe]; exact hba))
      clear y0 y1 hz hx hni hrow hwo hak hBr hm hwa hnb hBa hba hba2 hv2 hg
      by_cases hxb : (x0, x1) ∈ b
      · have e1 : decide ((x0, x1) ∈ b) = true := decide_eq_true hxb
        rw [e1] at H1
        go_wp2_with fail
        rw [HWA.out]
        refine (H1.out _ HB2.out).mono ?_
        rintro e w3 ⟨rfl, hB3⟩
        have HB3 := Lib.hid hB3
        clear hB3
        go_wp2_with fail
        go_roundw
        case rel => exact ⟨k + 1, o, by omega, by go_num, (NamesOwn.below (NamesOwn.below HROW.out (by rw [HNBE.out]; exact HBA2.out)) HB3.out), HBA.out.trans (HB3.out.mono (by omega)), by rw [HAK.out]; exact HWO.out.skip (.inl hxb)⟩
        case measure => simp [intOf]; omega
      have e1 : decide ((x0, x1) ∈ b) = false := decide_eq_false hxb
      rw [e1] at H1
      have HXB := Lib.hid hxb
      by_cases hxo : (x0, x1) ∈ o
      · have e2 : decide ((x0, x1) ∈ o) = true := decide_eq_true hxo
        rw [e2, ← HV2.out] at H2
        clear hxb
        go_wp2_with fail
        rw [HWA.out]
        refine (H1.out _ HB2.out).mono ?_
        rintro e w3 ⟨rfl, hB3⟩
        have HNI3 := Lib.hid (HNI2.out.below hB3)
        have hb3 := hB3.block nb (by omega)
        have n0' : w3.cell? ⟨nb, 0, none⟩ = some (.int .i64 x0) := (hB3.cell (p := ⟨nb, 0, none⟩) (by show nb < wa.heap.size; omega)).trans n0
        have n1' : w3.cell? ⟨nb, 1, none⟩ = some (.int .i64 x1) := (hB3.cell (p := ⟨nb, 1, none⟩) (by show nb < wa.heap.size; omega)).trans n1
        have hs3 := hB3.size
        have HB3 := Lib.hid hB3
        clear hB3 hb3
        go_wp2_with fail
        refine (H2.out _ HNI3.out).mono ?_
        rintro e w4 ⟨rfl, hB4⟩
        have HB4 := Lib.hid hB4
        clear hB4
        go_wp2_with fail
        go_roundw
        case rel => exact ⟨k + 1, o, by omega, by go_num, NamesOwn.below (NamesOwn.below (NamesOwn.below HROW.out (by rw [HNBE.out]; exact HBA2.out)) HB3.out) HB4.out, (HBA.out.trans (HB3.out.mono (by omega))).trans (HB4.out.mono (by omega)), by rw [HAK.out]; exact HWO.out.skip (.inr hxo)⟩
        case measure => simp [intOf]; omega
      have e2 : decide ((x0, x1) ∈ o) = false := decide_eq_false hxo
      rw [e2, ← HV2.out] at H2
      have HXO := Lib.hid hxo
      clear hxb hxo
      go_wp2_with fail
      rw [HWA.out]
      refine (H1.out _ HB2.out).mono ?_
      rintro e w3 ⟨rfl, hB3⟩
      have HNI3 := Lib.hid (HNI2.out.below hB3)
      have n0' : w3.cell? ⟨nb, 0, none⟩ = some (.int .i64 x0) := (hB3.cell (p := ⟨nb, 0, none⟩) (by show nb < wa.heap.size; omega)).trans n0
      have n1' : w3.cell? ⟨nb, 1, none⟩ = some (.int .i64 x1) := (hB3.cell (p := ⟨nb, 1, none⟩) (by show nb < wa.heap.size; omega)).trans n1
      have hnb3 := (hB3.block nb (by omega)).trans HNB.out
      have hs3 := hB3.size
      have HB3 := Lib.hid (HBA.out.trans (hB3.mono (by omega)))
      have HR3 := Lib.hid (NamesOwn.below (NamesOwn.below HROW.out (by rw [HNBE.out]; exact HBA2.out)) hB3)
      have HNB3 := Lib.hid hnb3
      clear hB3 hnb3 n0 n1
      go_wp2_with fail
      refine (H2.out _ HNI3.out).mono ?_
      rintro e w4 ⟨rfl, hB4⟩
      have HNI4 := Lib.hid (HNI3.out.below hB4)
      have hnb4 := (hB4.block nb (by omega)).trans HNB3.out
      have n0 : w4.cell? ⟨nb, 0, none⟩ = some (.int .i64 x0) := by simp [World.cell?, hnb4]
      have n1 : w4.cell? ⟨nb, 1, none⟩ = some (.int .i64 x1) := by simp [World.cell?, hnb4]
      have hs4 := hB4.size
      have HB4 := Lib.hid (HB3.out.trans (hB4.mono (by omega)))
      have HR4 := Lib.hid (NamesOwn.below HR3.out hB4)
      have HNB4 := Lib.hid hnb4
      have hv2 := HV2.out
      clear hB4 hnb4 n0' n1'
      have hr4 : ∀ p, World.ownsRow (w4.drewN p) B 59 2 (.slice A2 m c2) m (Vm.cells o) := fun p => by
        have h := HR4.out
        unfold NamesOwn at h
        rw [HM.out, hv2] at h
        exact h
      have hBnb : B ≤ nb := by rw [← HNBE.out]; exact hsz
      have hnw : nb < w4.heap.size := by omega
      have HRR := Lib.hid hr4
      have HRL := Lib.hid (fun b' (hb' : (Value.slice A2 m c2).ownBlock = some b') => (World.ownsRow.lt (show World.ownsRow wr B 59 2 (.slice A2 m c2) m (Vm.cells o) by
        have h := HROW.out
        unfold NamesOwn at h
        rw [HM.out, hv2] at h
        exact h) b' hb').2)
      clear hr4
      go_wp2_with fail
      go_loopw [8] (fun i wq => ∃ j p : Nat, j ≤ m ∧ i = .int .i64 j ∧ wq = w4.drewN p ∧ ∀ t (h : t < o.length), j ≤ t → Vm.lt (x0, x1) o[t]) (fun i _ => (intOf i).toNat)
      case atStart => exact ⟨m, 0, Nat.le_refl _, rfl, rfl, fun t h1 h2 => absurd h1 (by rw [HM.out]; omega)⟩
      case round =>
        obtain ⟨j, p, hj, rfl, rfl, hlo⟩ := hrel
        have HLO := Lib.hid hlo
        clear hlo
        by_cases h0 : 0 < j
        · have d0 : decide ((0 : Int) < (j : Int)) = true := by simp; omega
          obtain ⟨jj, hjj⟩ : ∃ jj, j = jj + 1 := ⟨j - 1, by omega⟩
          have hj' : j - 1 = jj := by omega
          have hjm : jj < m := by omega
          obtain ⟨g2, q2, rfl, hg2, hz2', y0, y1⟩ := HNI4.out.at hjm
          obtain ⟨y, hy⟩ : ∃ y, o[jj] = y := ⟨_, rfl⟩
          rw [hy] at y0 y1
          obtain ⟨p0, p1⟩ := y
          simp only at y0 y1
          have j1 : (j : Int) - 1 = (jj : Int) := by omega
          have HJJ := Lib.hid hjj
          have HJ' := Lib.hid hj'
          have j2 : (jj : Int) < (m : Int) := by omega
          have j3 : (0 : Int) ≤ (jj : Int) := by omega
          have HY := Lib.hid hy
          have HZ2 := Lib.hid hz2'
          clear hy hg2 hjj hj'
          have hlt3 : Vm.lt (x0, x1) (p0, p1) ∨ ¬ Vm.lt (x0, x1) (p0, p1) := Classical.em _
          by_cases c1 : x0 < p0
          · have c2 : decide (x0 < p0) = true := by simpa using c1
            have HL := Lib.hid (show Vm.lt (x0, x1) (p0, p1) from .inl c1)
            clear hlt3
            go_wp2_with fail
            go_quiet (fail)
            go_wp2_with fail
            go_roundw
            case rel => exact ⟨jj, _, by omega, by go_num, rfl, fun t h1 h2 => by
              by_cases e : t = jj
              · subst e; rw [HY.out]; exact HL.out
              · exact HLO.out t h1 (by have := HJJ.out; omega)⟩
            case measure => have := HJJ.out; simp [intOf]; omega
          have c2 : decide (x0 < p0) = false := by simpa using c1
          by_cases c3 : p0 = x0
          · subst c3
            by_cases c4 : x1 < p1
            · have c5 : decide (x1 < p1) = true := by simpa using c4
              have HL := Lib.hid (show Vm.lt (p0, x1) (p0, p1) from .inr ⟨rfl, c4⟩)
              clear hlt3
              go_wp2_with fail
              go_quiet (fail)
              go_wp2_with fail
              go_roundw
              case rel => exact ⟨jj, _, by omega, by go_num, rfl, fun t h1 h2 => by
                by_cases e : t = jj
                · subst e; rw [HY.out]; exact HL.out
                · exact HLO.out t h1 (by have := HJJ.out; omega)⟩
              case measure => have := HJJ.out; simp [intOf]; omega
            have c5 : decide (x1 < p1) = false := by simpa using c4
            have HQ := Lib.hid (show j = 0 ∨ ∃ h : j - 1 < o.length, Vm.lt o[j - 1] (p0, x1) from .inr ⟨by rw [HM.out]; omega, by
              simp only [HJ'.out]
              rw [HY.out]
              have hne : p1 ≠ x1 := fun e => HXO.out (by rw [← e, ← HY.out]; exact List.getElem_mem _)
              exact .inr ⟨rfl, by show p1 < x1; omega⟩⟩)
            clear hlt3
            go_wp2_with fail
            go_quiet (fail)
            go_wp2_with (at_builtin; refine wpList_append_lies _ rfl _ _ 23 rfl B 59 i0 (.agg #[.int .i64 0, .int .i64 0]) 2 16 Try.underlying23 hi hz0 hz1 hz2 rfl (by decide) _ _ _ rfl (World.ownsRow.alloc (HRR.out _) _) ⟨w4.heap.size, 0, none⟩ 1 1 [.int .i64 0, .int .i64 0] rfl rfl (cell_two_new _ _ _ _) (by simp [Value.oneCell']) (by omega) (by unfold maxLen; omega) (by omega) (by simp; omega) _ rfl ?_; intro g4 cap4 w5 hown5 hgrow5 hat5 hlt5; have HO5 := Lib.hid hown5; have HG5 := Lib.hid hgrow5; have HA5 := Lib.hid hat5; clear hown5 hgrow5 hat5)
            have hcap : m + 1 ≤ cap4 := (World.ownsRow.fits HO5.out)
            have ew : IntKind.i64.wrap ((j : Int) + 1) = (j : Int) + 1 := by rw [IntKind.wrap_i64]; omega
            have ew3 : ((j : Int) + 1).toNat = j + 1 := by omega
            have k1 : (0 : Int) ≤ (j : Int) + 1 := by omega
            have k2 : (j : Int) + 1 ≤ (m : Int) + 1 := by omega
            have k3 : (0 : Int) ≤ (j : Int) := by omega
            have k4 : (j : Int) ≤ (m : Int) + 1 := by omega
            have k5 : ¬ cap4 = j := by omega
            have hgnb : g4 ≠ nb := by
              rcases HA5.out with h | h
              · have := HRL.out _ h; omega
              · simp at h; omega
            have hBg : B ≤ g4 := (World.ownsRow.lt HO5.out g4 rfl).1
            have NB5 := Lib.hid (show w5.drew.heap[nb]? = some (.cells #[.int .i64 p0, .int .i64 x1] 59 (0, 0)) from (HG5.out.block nb (by simp; omega) (fun e => by have := HRL.out _ e.symm; omega)).trans ((Below.heap_alloc _ _ _ (by simp; omega)).trans HNB4.out))
            by_cases hcp : cap4 = j + 1
            · obtain rfl : j = m := by omega
              subst hcp
              obtain ⟨w6, hrun, ho6, hb6, hk6⟩ := own_shift (P := Try.prog) (w := w5.drew) (T := 23) (ty := 3) Try.underlying23 hi hz1 (by rw [Vm.cells_length, HM.out]) HO5.out (Vm.cells_one o) (Nat.le_refl _) (some ⟨g4, 0, none⟩) 0 1 (fun h => absurd h (by omega))
              rw [Nat.sub_self, Nat.add_sub_cancel_left] at hrun
              have HRUN := Lib.hid hrun
              have nb6 := (hk6 nb (fun e => hgnb e.symm)).trans NB5.out
              have n0' : w6.cell? ⟨nb, 0, none⟩ = some (.int .i64 p0) := by simp [World.cell?, nb6]
              have n1' : w6.cell? ⟨nb, 1, none⟩ = some (.int .i64 x1) := by simp [World.cell?, nb6]
              obtain ⟨s0, r0⟩ := World.ownsRow.cellSome ho6 (j * 2) (by omega)
              obtain ⟨s1, r1⟩ := World.ownsRow.cellSome ho6 (j * 2 + 1) (by omega)
              have f0 := World.ownsRow.frozenAt ho6 (j * 2)
              have f1 := World.ownsRow.frozenAt ho6 (j * 2 + 1)
              have HO6 := Lib.hid ho6
              have HB6 := Lib.hid hb6
              clear hrun ho6 hb6 hk6 nb6
              go_region_law (refine step_copy_known rfl (.tmp 69) (.tmp 72) 23 rfl _ _ _ w6 (by simp [Act.eval, Act.put]) (by simp [Act.eval, Act.put]) HRUN.out ?_)
              have HO7 := Lib.hid (show NamesOwn ((w6.setCell ⟨g4, j * 2, none⟩ (.int .i64 p0)).setCell ⟨g4, j * 2 + 1, none⟩ (.int .i64 x1)) B (.slice (some ⟨g4, 0, none⟩) (j + 1) (j + 1)) (o.take j ++ (p0, x1) :: o.drop j) from by
                have h := (World.ownsRow.stored (World.ownsRow.stored HO6.out (j * 2) (.int .i64 p0)).1 (j * 2 + 1) (.int .i64 x1)).1
                rw [shifted_set _ _ _ _ (by rw [Vm.cells_length, HM.out]) (by omega)] at h
                have hl : (o.take j ++ (p0, x1) :: o.drop j).length = j + 1 := by simp only [List.length_append, List.length_cons, List.length_take, List.length_drop, HM.out]; omega
                unfold NamesOwn
                rw [hl, Vm.cells_put]
                exact h)
              have HB7 := Lib.hid (show Below B w ((w6.setCell ⟨g4, j * 2, none⟩ (.int .i64 p0)).setCell ⟨g4, j * 2 + 1, none⟩ (.int .i64 x1)) from (((((Below.drewN' HB4.out _).alloc (by simp; omega) _).grown HG5.out (by simp; omega) (fun b hb => (World.ownsRow.lt (HRR.out 0) _ hb).1)).drew.trans (HB6.out.mono hBg)).setCell (by show B ≤ g4; omega) _).setCell (by show B ≤ g4; omega) _)
              go_wp2_with fail
              go_roundw
              case rel => exact ⟨k + 1, _, by omega, by go_num, HO7.out, HB7.out, by rw [HAK.out]; exact HWO.out.put HXB.out (by rw [HM.out]; first | exact hj | exact Nat.le_refl _) HLO.out HQ.out⟩
              case measure => simp [intOf]; omega
            · obtain ⟨w6, hrun, ho6, hb6, hk6⟩ := own_shift (P := Try.prog) (w := w5.drew) (T := 23) (ty := 3) Try.underlying23 hi hz1 (by rw [Vm.cells_length, HM.out]) HO5.out (Vm.cells_one o) hj (some ⟨g4, (j + 1) * 2, none⟩) (cap4 - (j + 1)) (cap4 - j) (fun _ => rfl)
              have HRUN := Lib.hid hrun
              have nb6 := (hk6 nb (fun e => hgnb e.symm)).trans NB5.out
              have n0' : w6.cell? ⟨nb, 0, none⟩ = some (.int .i64 p0) := by simp [World.cell?, nb6]
              have n1' : w6.cell? ⟨nb, 1, none⟩ = some (.int .i64 x1) := by simp [World.cell?, nb6]
              obtain ⟨s0, r0⟩ := World.ownsRow.cellSome ho6 (j * 2) (by omega)
              obtain ⟨s1, r1⟩ := World.ownsRow.cellSome ho6 (j * 2 + 1) (by omega)
              have f0 := World.ownsRow.frozenAt ho6 (j * 2)
              have f1 := World.ownsRow.frozenAt ho6 (j * 2 + 1)
              have HO6 := Lib.hid ho6
              have HB6 := Lib.hid hb6
              clear hrun ho6 hb6 hk6 nb6
              go_region_law (refine step_copy_known rfl (.tmp 69) (.tmp 72) 23 rfl _ _ _ w6 (by simp [Act.eval, Act.put]) (by simp [Act.eval, Act.put]) HRUN.out ?_)
              have HO7 := Lib.hid (show NamesOwn ((w6.setCell ⟨g4, j * 2, none⟩ (.int .i64 p0)).setCell ⟨g4, j * 2 + 1, none⟩ (.int .i64 x1)) B (.slice (some ⟨g4, 0, none⟩) (m + 1) cap4) (o.take j ++ (p0, x1) :: o.drop j) from by
                have h := (World.ownsRow.stored (World.ownsRow.stored HO6.out (j * 2) (.int .i64 p0)).1 (j * 2 + 1) (.int .i64 x1)).1
                rw [shifted_set _ _ _ _ (by rw [Vm.cells_length, HM.out]) (by omega)] at h
                have hl : (o.take j ++ (p0, x1) :: o.drop j).length = m + 1 := by simp only [List.length_append, List.length_cons, List.length_take, List.length_drop, HM.out]; omega
                unfold NamesOwn
                rw [hl, Vm.cells_put]
                exact h)
              have HB7 := Lib.hid (show Below B w ((w6.setCell ⟨g4, j * 2, none⟩ (.int .i64 p0)).setCell ⟨g4, j * 2 + 1, none⟩ (.int .i64 x1)) from (((((Below.drewN' HB4.out _).alloc (by simp; omega) _).grown HG5.out (by simp; omega) (fun b hb => (World.ownsRow.lt (HRR.out 0) _ hb).1)).drew.trans (HB6.out.mono hBg)).setCell (by show B ≤ g4; omega) _).setCell (by show B ≤ g4; omega) _)
              go_wp2_with fail
              go_roundw
              case rel => exact ⟨k + 1, _, by omega, by go_num, HO7.out, HB7.out, by rw [HAK.out]; exact HWO.out.put HXB.out (by rw [HM.out]; first | exact hj | exact Nat.le_refl _) HLO.out HQ.out⟩
              case measure => simp [intOf]; omega
          have c3' : (p0 == x0) = false := beq_eq_false_iff_ne.2 c3
          have HQ := Lib.hid (show j = 0 ∨ ∃ h : j - 1 < o.length, Vm.lt o[j - 1] (x0, x1) from .inr ⟨by rw [HM.out]; omega, by
            simp only [HJ'.out]
            rw [HY.out]
            exact .inl (by show p0 < x0; omega)⟩)
          clear hlt3
          go_wp2_with fail
          go_quiet (fail)
          go_wp2_with (at_builtin; refine wpList_append_lies _ rfl _ _ 23 rfl B 59 i0 (.agg #[.int .i64 0, .int .i64 0]) 2 16 Try.underlying23 hi hz0 hz1 hz2 rfl (by decide) _ _ _ rfl (World.ownsRow.alloc (HRR.out _) _) ⟨w4.heap.size, 0, none⟩ 1 1 [.int .i64 0, .int .i64 0] rfl rfl (cell_two_new _ _ _ _) (by simp [Value.oneCell']) (by omega) (by unfold maxLen; omega) (by omega) (by simp; omega) _ rfl ?_; intro g4 cap4 w5 hown5 hgrow5 hat5 hlt5; have HO5 := Lib.hid hown5; have HG5 := Lib.hid hgrow5; have HA5 := Lib.hid hat5; clear hown5 hgrow5 hat5)
          have hcap : m + 1 ≤ cap4 := (World.ownsRow.fits HO5.out)
          have ew : IntKind.i64.wrap ((j : Int) + 1) = (j : Int) + 1 := by rw [IntKind.wrap_i64]; omega
          have ew3 : ((j : Int) + 1).toNat = j + 1 := by omega
          have k1 : (0 : Int) ≤ (j : Int) + 1 := by omega
          have k2 : (j : Int) + 1 ≤ (m : Int) + 1 := by omega
          have k3 : (0 : Int) ≤ (j : Int) := by omega
          have k4 : (j : Int) ≤ (m : Int) + 1 := by omega
          have k5 : ¬ cap4 = j := by omega
          have hgnb : g4 ≠ nb := by
            rcases HA5.out with h | h
            · have := HRL.out _ h; omega
            · simp at h; omega
          have hBg : B ≤ g4 := (World.ownsRow.lt HO5.out g4 rfl).1
          have NB5 := Lib.hid (show w5.drew.heap[nb]? = some (.cells #[.int .i64 x0, .int .i64 x1] 59 (0, 0)) from (HG5.out.block nb (by simp; omega) (fun e => by have := HRL.out _ e.symm; omega)).trans ((Below.heap_alloc _ _ _ (by simp; omega)).trans HNB4.out))
          by_cases hcp : cap4 = j + 1
          · obtain rfl : j = m := by omega
            subst hcp
            obtain ⟨w6, hrun, ho6, hb6, hk6⟩ := own_shift (P := Try.prog) (w := w5.drew) (T := 23) (ty := 3) Try.underlying23 hi hz1 (by rw [Vm.cells_length, HM.out]) HO5.out (Vm.cells_one o) (Nat.le_refl _) (some ⟨g4, 0, none⟩) 0 1 (fun h => absurd h (by omega))
            rw [Nat.sub_self, Nat.add_sub_cancel_left] at hrun
            have HRUN := Lib.hid hrun
            have nb6 := (hk6 nb (fun e => hgnb e.symm)).trans NB5.out
            have n0' : w6.cell? ⟨nb, 0, none⟩ = some (.int .i64 x0) := by simp [World.cell?, nb6]
            have n1' : w6.cell? ⟨nb, 1, none⟩ = some (.int .i64 x1) := by simp [World.cell?, nb6]
            obtain ⟨s0, r0⟩ := World.ownsRow.cellSome ho6 (j * 2) (by omega)
            obtain ⟨s1, r1⟩ := World.ownsRow.cellSome ho6 (j * 2 + 1) (by omega)
            have f0 := World.ownsRow.frozenAt ho6 (j * 2)
            have f1 := World.ownsRow.frozenAt ho6 (j * 2 + 1)
            have HO6 := Lib.hid ho6
            have HB6 := Lib.hid hb6
            clear hrun ho6 hb6 hk6 nb6
            go_region_law (refine step_copy_known rfl (.tmp 69) (.tmp 72) 23 rfl _ _ _ w6 (by simp [Act.eval, Act.put]) (by simp [Act.eval, Act.put]) HRUN.out ?_)
            have HO7 := Lib.hid (show NamesOwn ((w6.setCell ⟨g4, j * 2, none⟩ (.int .i64 x0)).setCell ⟨g4, j * 2 + 1, none⟩ (.int .i64 x1)) B (.slice (some ⟨g4, 0, none⟩) (j + 1) (j + 1)) (o.take j ++ (x0, x1) :: o.drop j) from by
              have h := (World.ownsRow.stored (World.ownsRow.stored HO6.out (j * 2) (.int .i64 x0)).1 (j * 2 + 1) (.int .i64 x1)).1
              rw [shifted_set _ _ _ _ (by rw [Vm.cells_length, HM.out]) (by omega)] at h
              have hl : (o.take j ++ (x0, x1) :: o.drop j).length = j + 1 := by simp only [List.length_append, List.length_cons, List.length_take, List.length_drop, HM.out]; omega
              unfold NamesOwn
              rw [hl, Vm.cells_put]
              exact h)
            have HB7 := Lib.hid (show Below B w ((w6.setCell ⟨g4, j * 2, none⟩ (.int .i64 x0)).setCell ⟨g4, j * 2 + 1, none⟩ (.int .i64 x1)) from (((((Below.drewN' HB4.out _).alloc (by simp; omega) _).grown HG5.out (by simp; omega) (fun b hb => (World.ownsRow.lt (HRR.out 0) _ hb).1)).drew.trans (HB6.out.mono hBg)).setCell (by show B ≤ g4; omega) _).setCell (by show B ≤ g4; omega) _)
            go_wp2_with fail
            go_roundw
            case rel => exact ⟨k + 1, _, by omega, by go_num, HO7.out, HB7.out, by rw [HAK.out]; exact HWO.out.put HXB.out (by rw [HM.out]; first | exact hj | exact Nat.le_refl _) HLO.out HQ.out⟩
            case measure => simp [intOf]; omega
          · obtain ⟨w6, hrun, ho6, hb6, hk6⟩ := own_shift (P := Try.prog) (w := w5.drew) (T := 23) (ty := 3) Try.underlying23 hi hz1 (by rw [Vm.cells_length, HM.out]) HO5.out (Vm.cells_one o) hj (some ⟨g4, (j + 1) * 2, none⟩) (cap4 - (j + 1)) (cap4 - j) (fun _ => rfl)
            have HRUN := Lib.hid hrun
            have nb6 := (hk6 nb (fun e => hgnb e.symm)).trans NB5.out
            have n0' : w6.cell? ⟨nb, 0, none⟩ = some (.int .i64 x0) := by simp [World.cell?, nb6]
            have n1' : w6.cell? ⟨nb, 1, none⟩ = some (.int .i64 x1) := by simp [World.cell?, nb6]
            obtain ⟨s0, r0⟩ := World.ownsRow.cellSome ho6 (j * 2) (by omega)
            obtain ⟨s1, r1⟩ := World.ownsRow.cellSome ho6 (j * 2 + 1) (by omega)
            have f0 := World.ownsRow.frozenAt ho6 (j * 2)
            have f1 := World.ownsRow.frozenAt ho6 (j * 2 + 1)
            have HO6 := Lib.hid ho6
            have HB6 := Lib.hid hb6
            clear hrun ho6 hb6 hk6 nb6
            go_region_law (refine step_copy_known rfl (.tmp 69) (.tmp 72) 23 rfl _ _ _ w6 (by simp [Act.eval, Act.put]) (by simp [Act.eval, Act.put]) HRUN.out ?_)
            have HO7 := Lib.hid (show NamesOwn ((w6.setCell ⟨g4, j * 2, none⟩ (.int .i64 x0)).setCell ⟨g4, j * 2 + 1, none⟩ (.int .i64 x1)) B (.slice (some ⟨g4, 0, none⟩) (m + 1) cap4) (o.take j ++ (x0, x1) :: o.drop j) from by
              have h := (World.ownsRow.stored (World.ownsRow.stored HO6.out (j * 2) (.int .i64 x0)).1 (j * 2 + 1) (.int .i64 x1)).1
              rw [shifted_set _ _ _ _ (by rw [Vm.cells_length, HM.out]) (by omega)] at h
              have hl : (o.take j ++ (x0, x1) :: o.drop j).length = m + 1 := by simp only [List.length_append, List.length_cons, List.length_take, List.length_drop, HM.out]; omega
              unfold NamesOwn
              rw [hl, Vm.cells_put]
              exact h)
            have HB7 := Lib.hid (show Below B w ((w6.setCell ⟨g4, j * 2, none⟩ (.int .i64 x0)).setCell ⟨g4, j * 2 + 1, none⟩ (.int .i64 x1)) from (((((Below.drewN' HB4.out _).alloc (by simp; omega) _).grown HG5.out (by simp; omega) (fun b hb => (World.ownsRow.lt (HRR.out 0) _ hb).1)).drew.trans (HB6.out.mono hBg)).setCell (by show B ≤ g4; omega) _).setCell (by show B ≤ g4; omega) _)
            go_wp2_with fail
            go_roundw
            case rel => exact ⟨k + 1, _, by omega, by go_num, HO7.out, HB7.out, by rw [HAK.out]; exact HWO.out.put HXB.out (by rw [HM.out]; first | exact hj | exact Nat.le_refl _) HLO.out HQ.out⟩
            case measure => simp [intOf]; omega
        · have d0 : decide ((0 : Int) < (j : Int)) = false := by simp; omega
          have HQ := Lib.hid (show j = 0 ∨ ∃ h : j - 1 < o.length, Vm.lt o[j - 1] (x0, x1) from .inl (by omega))
          go_wp2_with fail
          go_quiet (fail)
          go_wp2_with (at_builtin; refine wpList_append_lies _ rfl _ _ 23 rfl B 59 i0 (.agg #[.int .i64 0, .int .i64 0]) 2 16 Try.underlying23 hi hz0 hz1 hz2 rfl (by decide) _ _ _ rfl (World.ownsRow.alloc (HRR.out _) _) ⟨w4.heap.size, 0, none⟩ 1 1 [.int .i64 0, .int .i64 0] rfl rfl (cell_two_new _ _ _ _) (by simp [Value.oneCell']) (by omega) (by unfold maxLen; omega) (by omega) (by simp; omega) _ rfl ?_; intro g4 cap4 w5 hown5 hgrow5 hat5 hlt5; have HO5 := Lib.hid hown5; have HG5 := Lib.hid hgrow5; have HA5 := Lib.hid hat5; clear hown5 hgrow5 hat5)
          have hcap : m + 1 ≤ cap4 := (World.ownsRow.fits HO5.out)
          have ew : IntKind.i64.wrap ((j : Int) + 1) = (j : Int) + 1 := by rw [IntKind.wrap_i64]; omega
          have ew3 : ((j : Int) + 1).toNat = j + 1 := by omega
          have k1 : (0 : Int) ≤ (j : Int) + 1 := by omega
          have k2 : (j : Int) + 1 ≤ (m : Int) + 1 := by omega
          have k3 : (0 : Int) ≤ (j : Int) := by omega
          have k4 : (j : Int) ≤ (m : Int) + 1 := by omega
          have k5 : ¬ cap4 = j := by omega
          have hgnb : g4 ≠ nb := by
            rcases HA5.out with h | h
            · have := HRL.out _ h; omega
            · simp at h; omega
          have hBg : B ≤ g4 := (World.ownsRow.lt HO5.out g4 rfl).1
          have NB5 := Lib.hid (show w5.drew.heap[nb]? = some (.cells #[.int .i64 x0, .int .i64 x1] 59 (0, 0)) from (HG5.out.block nb (by simp; omega) (fun e => by have := HRL.out _ e.symm; omega)).trans ((Below.heap_alloc _ _ _ (by simp; omega)).trans HNB4.out))
          by_cases hcp : cap4 = j + 1
          · obtain rfl : j = m := by omega
            subst hcp
            obtain ⟨w6, hrun, ho6, hb6, hk6⟩ := own_shift (P := Try.prog) (w := w5.drew) (T := 23) (ty := 3) Try.underlying23 hi hz1 (by rw [Vm.cells_length, HM.out]) HO5.out (Vm.cells_one o) (Nat.le_refl _) (some ⟨g4, 0, none⟩) 0 1 (fun h => absurd h (by omega))
            rw [Nat.sub_self, Nat.add_sub_cancel_left] at hrun
            have HRUN := Lib.hid hrun
            have nb6 := (hk6 nb (fun e => hgnb e.symm)).trans NB5.out
            have n0' : w6.cell? ⟨nb, 0, none⟩ = some (.int .i64 x0) := by simp [World.cell?, nb6]
            have n1' : w6.cell? ⟨nb, 1, none⟩ = some (.int .i64 x1) := by simp [World.cell?, nb6]
            obtain ⟨s0, r0⟩ := World.ownsRow.cellSome ho6 (j * 2) (by omega)
            obtain ⟨s1, r1⟩ := World.ownsRow.cellSome ho6 (j * 2 + 1) (by omega)
            have f0 := World.ownsRow.frozenAt ho6 (j * 2)
            have f1 := World.ownsRow.frozenAt ho6 (j * 2 + 1)
            have HO6 := Lib.hid ho6
            have HB6 := Lib.hid hb6
            clear hrun ho6 hb6 hk6 nb6
            go_region_law (refine step_copy_known rfl (.tmp 69) (.tmp 72) 23 rfl _ _ _ w6 (by simp [Act.eval, Act.put]) (by simp [Act.eval, Act.put]) HRUN.out ?_)
            have HO7 := Lib.hid (show NamesOwn ((w6.setCell ⟨g4, j * 2, none⟩ (.int .i64 x0)).setCell ⟨g4, j * 2 + 1, none⟩ (.int .i64 x1)) B (.slice (some ⟨g4, 0, none⟩) (j + 1) (j + 1)) (o.take j ++ (x0, x1) :: o.drop j) from by
              have h := (World.ownsRow.stored (World.ownsRow.stored HO6.out (j * 2) (.int .i64 x0)).1 (j * 2 + 1) (.int .i64 x1)).1
              rw [shifted_set _ _ _ _ (by rw [Vm.cells_length, HM.out]) (by omega)] at h
              have hl : (o.take j ++ (x0, x1) :: o.drop j).length = j + 1 := by simp only [List.length_append, List.length_cons, List.length_take, List.length_drop, HM.out]; omega
              unfold NamesOwn
              rw [hl, Vm.cells_put]
              exact h)
            have HB7 := Lib.hid (show Below B w ((w6.setCell ⟨g4, j * 2, none⟩ (.int .i64 x0)).setCell ⟨g4, j * 2 + 1, none⟩ (.int .i64 x1)) from (((((Below.drewN' HB4.out _).alloc (by simp; omega) _).grown HG5.out (by simp; omega) (fun b hb => (World.ownsRow.lt (HRR.out 0) _ hb).1)).drew.trans (HB6.out.mono hBg)).setCell (by show B ≤ g4; omega) _).setCell (by show B ≤ g4; omega) _)
            go_wp2_with fail
            go_roundw
            case rel => exact ⟨k + 1, _, by omega, by go_num, HO7.out, HB7.out, by rw [HAK.out]; exact HWO.out.put HXB.out (by rw [HM.out]; first | exact hj | exact Nat.le_refl _) HLO.out HQ.out⟩
            case measure => simp [intOf]; omega
          · obtain ⟨w6, hrun, ho6, hb6, hk6⟩ := own_shift (P := Try.prog) (w := w5.drew) (T := 23) (ty := 3) Try.underlying23 hi hz1 (by rw [Vm.cells_length, HM.out]) HO5.out (Vm.cells_one o) hj (some ⟨g4, (j + 1) * 2, none⟩) (cap4 - (j + 1)) (cap4 - j) (fun _ => rfl)
            have HRUN := Lib.hid hrun
            have nb6 := (hk6 nb (fun e => hgnb e.symm)).trans NB5.out
            have n0' : w6.cell? ⟨nb, 0, none⟩ = some (.int .i64 x0) := by simp [World.cell?, nb6]
            have n1' : w6.cell? ⟨nb, 1, none⟩ = some (.int .i64 x1) := by simp [World.cell?, nb6]
            obtain ⟨s0, r0⟩ := World.ownsRow.cellSome ho6 (j * 2) (by omega)
            obtain ⟨s1, r1⟩ := World.ownsRow.cellSome ho6 (j * 2 + 1) (by omega)
            have f0 := World.ownsRow.frozenAt ho6 (j * 2)
            have f1 := World.ownsRow.frozenAt ho6 (j * 2 + 1)
            have HO6 := Lib.hid ho6
            have HB6 := Lib.hid hb6
            clear hrun ho6 hb6 hk6 nb6
            go_region_law (refine step_copy_known rfl (.tmp 69) (.tmp 72) 23 rfl _ _ _ w6 (by simp [Act.eval, Act.put]) (by simp [Act.eval, Act.put]) HRUN.out ?_)
            have HO7 := Lib.hid (show NamesOwn ((w6.setCell ⟨g4, j * 2, none⟩ (.int .i64 x0)).setCell ⟨g4, j * 2 + 1, none⟩ (.int .i64 x1)) B (.slice (some ⟨g4, 0, none⟩) (m + 1) cap4) (o.take j ++ (x0, x1) :: o.drop j) from by
              have h := (World.ownsRow.stored (World.ownsRow.stored HO6.out (j * 2) (.int .i64 x0)).1 (j * 2 + 1) (.int .i64 x1)).1
              rw [shifted_set _ _ _ _ (by rw [Vm.cells_length, HM.out]) (by omega)] at h
              have hl : (o.take j ++ (x0, x1) :: o.drop j).length = m + 1 := by simp only [List.length_append, List.length_cons, List.length_take, List.length_drop, HM.out]; omega
              unfold NamesOwn
              rw [hl, Vm.cells_put]
              exact h)
            have HB7 := Lib.hid (show Below B w ((w6.setCell ⟨g4, j * 2, none⟩ (.int .i64 x0)).setCell ⟨g4, j * 2 + 1, none⟩ (.int .i64 x1)) from (((((Below.drewN' HB4.out _).alloc (by simp; omega) _).grown HG5.out (by simp; omega) (fun b hb => (World.ownsRow.lt (HRR.out 0) _ hb).1)).drew.trans (HB6.out.mono hBg)).setCell (by show B ≤ g4; omega) _).setCell (by show B ≤ g4; omega) _)
            go_wp2_with fail
            go_roundw
            case rel => exact ⟨k + 1, _, by omega, by go_num, HO7.out, HB7.out, by rw [HAK.out]; exact HWO.out.put HXB.out (by rw [HM.out]; first | exact hj | exact Nat.le_refl _) HLO.out HQ.out⟩
            case measure => simp [intOf]; omega
    · obtain rfl : k = n := by omega
      have d8 : decide ((k : Int) < (k : Int)) = false := by simp
      have HE := Lib.hid (show o = Vm.wo a b by rw [List.take_of_length_le (by rw [HA.out.1]; exact Nat.le_refl _)] at hwo; exact hwo.wo)
      have HROW := Lib.hid hrow
      clear hrow hwo
      go_wp2_with fail
      go_ret
      exact ⟨u5, rfl, by rw [← HE.out, HBB.out]; exact HROW.out, by rw [HBB.out]; exact hBr⟩

end Go.Proofs.Ytebkgndcgcdogaa
