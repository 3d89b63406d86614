/-
  ManifestChanges: its walk.
-/
import Derived.Test.YtebkgndcgcdogaaVn
import Derived.Test.YtebkgndcgcdogaaManG
namespace Go.Proofs.Ytebkgndcgcdogaa
open Go.RowKit
set_option maxHeartbeats 4000000

set_option maxRecDepth 100000 in
theorem manifestChanges_walk (A : Option Addr) (n c : Nat) (z : List Int) (w : World) (hz : IntsIn .i64 w A n c z) (hc : c * Try.prog.bytesOf 3 ≤ 140737488351232) :
    Calls Try.prog 7 #[.slice A n c] w fun e w' => e = .returned (.bool true) ∧ Below w.heap.size w w' := by
  have hb8 : Try.prog.bytesOf 3 = 8 := by kernel_rfl
  rw [hb8] at hc
  have hnc := hz.2.1
  have hn : n ≤ 17592186044416 := by omega
  clear hb8 hc hnc
  have F1 := Lib.hid (fun V => few_any A n c V (by omega))
  by_cases h500 : 500 < n
  · have d1 : decide ((n : Int) ≤ 500) = false := by simp; omega
    go_enter Try.func7, Try.ntmps7
    go_wp2_with fail
    refine (vsane_any _).mono ?_
    rintro e w1 ⟨rfl, hB1⟩
    go_wp2_with fail
    refine (F1.out _).mono ?_
    rintro e w2 ⟨rfl, rfl⟩
    go_wp2_with fail
    go_ret
    exact ⟨rfl, hB1⟩
  have d1 : decide ((n : Int) ≤ 500) = true := by simp; omega
  have N1 := Lib.hid (fun V hb => new_any A n c w V hb)
  have K1 := Lib.hid (fun g V hd => mkVersion_any A n c z g w V hz hn hd)
  clear hz h500
  go_enter Try.func7, Try.ntmps7
  go_wp2_with fail
  refine (vsane_any _).mono ?_
  rintro e w1 ⟨rfl, hB1⟩
  go_wp2_with fail
  refine (F1.out _).mono ?_
  rintro e w2 ⟨rfl, rfl⟩
  go_wp2_with fail
  refine (N1.out _ hB1).mono ?_
  rintro e w2 ⟨rfl, hd2, _⟩
  obtain ⟨g, hg⟩ : ∃ g, w1.heap.size = g := ⟨_, rfl⟩
  rw [hg] at hd2 ⊢
  have HD2 := Lib.hid hd2
  clear hd2 hB1 hg
  go_wp2_with fail
  refine (K1.out g _ HD2.out).mono ?_
  rintro e w3 ⟨na, Aa, ka, ca, la, rfl, hna, hma, hd3, _⟩
  have HNA := Lib.hid hna
  have HMA := Lib.hid hma
  have HD3 := Lib.hid hd3
  clear hna hma hd3 HD2
  go_wp2_with fail
  refine (K1.out g _ HD3.out).mono ?_
  rintro e w5 ⟨nb, Ab, kb, cb, lb, rfl, hnb, hmb, hd5, hk5⟩
  have HNA5 := Lib.hid (HNA.out.kept HD3.out hk5)
  have HNB5 := Lib.hid hnb
  have HMB := Lib.hid hmb
  have HB5 := Lib.hid hd5.1
  clear hnb hmb hd5 hk5 HD3 HNA N1 K1 F1
  have hka : la.length = ka := HNA5.out.1
  have hkb : lb.length = kb := HNB5.out.1
  have hka6 : ka ≤ 60 := by rw [← hka]; exact HMA.out.2
  have hkb6 : kb ≤ 60 := by rw [← hkb]; exact HMB.out.2
  by_cases ha0 : na = 0
  · subst ha0
    go_wp2_with fail
    go_ret
    exact ⟨rfl, (HB5.out.alloc HB5.out.size _).alloc (by have := HB5.out.size; simp; omega) _⟩
  by_cases hb0 : nb = 0
  · subst hb0
    have b1 : (na == 0) = false := beq_eq_false_iff_ne.2 ha0
    go_wp2_with fail
    go_ret
    exact ⟨rfl, (HB5.out.alloc HB5.out.size _).alloc (by have := HB5.out.size; simp; omega) _⟩
  have b1 : (na == 0) = false := beq_eq_false_iff_ne.2 ha0
  have b2 : (nb == 0) = false := beq_eq_false_iff_ne.2 hb0
  have hca := Vm.made_chk HMA.out ha0
  have hcb := Vm.made_chk HMB.out hb0
  obtain ⟨P, hP⟩ : ∃ P, Vm.wo lb la = P := ⟨_, rfl⟩
  obtain ⟨Q, hQ⟩ : ∃ Q, Vm.wo la lb = Q := ⟨_, rfl⟩
  have hPw : Vm.IsWo lb la P := hP ▸ Vm.wo_is lb la
  have hPl : P.length ≤ 60 := by have := hPw.len; omega
  have hQl : Q.length ≤ 60 := by have := Vm.wo_len la lb; rw [hQ] at this; omega
  have hg1 : Vm.chg na la nb lb = (P, Q, 0) := by unfold Vm.chg; rw [if_pos hca, if_pos hcb, hP, hQ]
  have hg2 : Vm.chg nb lb na la = (Q, P, 0) := by unfold Vm.chg; rw [if_pos hcb, if_pos hca, hP, hQ]
  have hg3 : Vm.chg na la na la = ([], [], 0) := by unfold Vm.chg; rw [if_pos hca, if_pos hca, Vm.wo_self]
  have G1 := Lib.hid (fun V h h' => hg1 ▸ mchg_any na nb Aa Ab ka kb ca cb la lb V h h' (by omega) (by omega))
  have G2 := Lib.hid (fun V h h' => hg2 ▸ mchg_any nb na Ab Aa kb ka cb ca lb la V h h' (by omega) (by omega))
  have G3 := Lib.hid (fun V h h' => hg3 ▸ mchg_any na na Aa Aa ka ka ca ca la la V h h' (by omega) (by omega))
  have HPW := Lib.hid hPw
  have b0 := HB5.out.size
  obtain ⟨ba, hbae⟩ : ∃ ba, w5.heap.size = ba := ⟨_, rfl⟩
  obtain ⟨w6, hw6⟩ : ∃ V, (w5.alloc (.cells #[.int .i64 na, .slice Aa ka ca] 25)).alloc (.cells #[.int .i64 nb, .slice Ab kb cb] 25) = V := ⟨_, rfl⟩
  have hb6 : Below ba w5 w6 := by rw [← hw6, ← hbae]; exact ((Below.refl _ _).alloc (Nat.le_refl _) _).alloc (by simp) _
  have hs6 : w6.heap.size = ba + 2 := by rw [← hw6]; simp [hbae]
  have hva : VB ba na (.slice Aa ka ca) w6 := by
    rw [← hw6, ← hbae]
    exact (Below.heap_alloc _ _ _ (by simp)).trans (heap_alloc_new _ _)
  have hvb : VB (ba + 1) nb (.slice Ab kb cb) w6 := by
    rw [← hw6, ← hbae]
    have := heap_alloc_new (w5.alloc (.cells #[.int .i64 na, .slice Aa ka ca] 25)) (.cells #[.int .i64 nb, .slice Ab kb cb] 25)
    rw [World.size_alloc] at this
    exact this
  have HW6 := Lib.hid hw6
  have HNA6 := Lib.hid (HNA5.out.below (by rw [hbae]; exact hb6))
  have HNB6 := Lib.hid (HNB5.out.below (by rw [hbae]; exact hb6))
  have HVA6 := Lib.hid hva
  have HVB6 := Lib.hid hvb
  have HB6 := Lib.hid (HB5.out.trans (hb6.mono (by omega)))
  have q0 := hva.c0
  have q1 := hva.c1
  have q2 := hvb.c0
  have q3 := hvb.c1
  clear hw6 hb6 hva hvb hP hQ hPw hg1 hg2 hg3 HNA5 HNB5 hca hcb ha0 hb0
  go_wp2_with fail
  rw [HW6.out]
  refine (G1.out _ HNA6.out HNB6.out).mono ?_
  rintro e w7 ⟨vp, vq, rfl, hop, hoq, hb7⟩
  obtain ⟨Ap, cp, rfl, hnp⟩ := own_names hop
  obtain ⟨Aq, cq, rfl, hnq⟩ := own_names hoq
  have HP7 := Lib.hid hnp
  have HQ7 := Lib.hid hnq
  have HNA7 := Lib.hid (HNA6.out.below hb7)
  have HNB7 := Lib.hid (HNB6.out.below hb7)
  have hva := HVA6.out.below hb7 (by omega)
  have hvb := HVB6.out.below hb7 (by omega)
  have HVA7 := Lib.hid hva
  have HVB7 := Lib.hid hvb
  have hs7 := hb7.size
  have HB7 := Lib.hid (HB6.out.trans (hb7.mono (by omega)))
  clear q0 q1 q2 q3
  have q0 := hva.c0
  have q1 := hva.c1
  have q2 := hvb.c0
  have q3 := hvb.c1
  clear hop hoq hnp hnq hb7 hva hvb HNA6 HNB6 HVA6 HVB6
  go_wp2_with fail
  refine (G2.out _ HNB7.out HNA7.out).mono ?_
  rintro e w8 ⟨vr, vs, rfl, hor, hos, hb8⟩
  obtain ⟨Ar, cr, rfl, hnr⟩ := own_names hor
  obtain ⟨As, cs, rfl, hns⟩ := own_names hos
  have HP8 := Lib.hid (HP7.out.below hb8)
  have HQ8 := Lib.hid (HQ7.out.below hb8)
  have HR8 := Lib.hid hnr
  have HS8 := Lib.hid hns
  have HNA8 := Lib.hid (HNA7.out.below hb8)
  have HNB8 := Lib.hid (HNB7.out.below hb8)
  have hva := HVA7.out.below hb8 (by omega)
  have hvb := HVB7.out.below hb8 (by omega)
  have HVA8 := Lib.hid hva
  have HVB8 := Lib.hid hvb
  have hs8 := hb8.size
  have HB8 := Lib.hid (HB7.out.trans (hb8.mono (by omega)))
  clear q0 q1 q2 q3
  have q0 := hva.c0
  have q1 := hva.c1
  clear hor hos hnr hns hb8 hva hvb HNA7 HNB7 HVA7 HVB7 HP7 HQ7
  go_wp2_with fail
  refine (G3.out _ HNA8.out HNA8.out).mono ?_
  rintro e w9 ⟨vu, vv, rfl, hou, hov, hb9⟩
  obtain ⟨Au, cu, rfl, _⟩ := own_names hou
  obtain ⟨Av, cv, rfl, _⟩ := own_names hov
  have HP9 := Lib.hid (HP8.out.below hb9)
  have HQ9 := Lib.hid (HQ8.out.below hb9)
  have HR9 := Lib.hid (HR8.out.below hb9)
  have HS9 := Lib.hid (HS8.out.below hb9)
  have HNA9 := Lib.hid (HNA8.out.below hb9)
  have HNB9 := Lib.hid (HNB8.out.below hb9)
  have HVA9 := Lib.hid (HVA8.out.below hb9 (by omega))
  have HVB9 := Lib.hid (HVB8.out.below hb9 (by omega))
  have hs9 := hb9.size
  have HB9 := Lib.hid (HB8.out.trans (hb9.mono (by omega)))
  clear q0 q1 hou hov hb9 HNA8 HNB8 HVA8 HVB8 HP8 HQ8 HR8 HS8 G1 G2 G3
  obtain ⟨kp, hkp⟩ : ∃ kp, P.length = kp := ⟨_, rfl⟩
  obtain ⟨kq, hkq⟩ : ∃ kq, Q.length = kq := ⟨_, rfl⟩
  rw [hkp] at hPl
  rw [hkq] at hQl
  have hp9 := HP9.out
  have hq9 := HQ9.out
  have hr9 := HR9.out
  have hs9' := HS9.out
  rw [hkp] at hp9 hs9'
  rw [hkq] at hq9 hr9
  simp only [hkp, hkq]
  have HP9 := Lib.hid hp9
  have HQ9 := Lib.hid hq9
  have HR9 := Lib.hid hr9
  have HS9 := Lib.hid hs9'
  have HKP := Lib.hid hkp
  have X1 := Lib.hid (fun V h h' => (by
    have h := rsameN_any Ap As kp kp cp cs P P V h h' (by omega) (by omega)
    rw [decide_eq_true rfl] at h
    exact h : Calls Try.prog 27 #[.slice Ap kp cp, .slice As kp cs] V fun e w' => e = .returned (.bool true) ∧ Below V.heap.size V w'))
  have X2 := Lib.hid (fun V h h' => (by
    have h := rsameN_any Aq Ar kq kq cq cr Q Q V h h' (by omega) (by omega)
    rw [decide_eq_true rfl] at h
    exact h : Calls Try.prog 27 #[.slice Aq kq cq, .slice Ar kq cr] V fun e w' => e = .returned (.bool true) ∧ Below V.heap.size V w'))
  clear hp9 hq9 hr9 hs9' hkp hkq
  go_wp2_with fail
  refine (X1.out _ HP9.out HS9.out).mono ?_
  rintro e w10 ⟨rfl, hb10⟩
  have HP10 := Lib.hid (HP9.out.below hb10)
  have HQ10 := Lib.hid (HQ9.out.below hb10)
  have HR10 := Lib.hid (HR9.out.below hb10)
  have HNA10 := Lib.hid (HNA9.out.below hb10)
  have HNB10 := Lib.hid (HNB9.out.below hb10)
  have HVA10 := Lib.hid (HVA9.out.below hb10 (by omega))
  have HVB10 := Lib.hid (HVB9.out.below hb10 (by omega))
  have hs10 := hb10.size
  have HB10 := Lib.hid (HB9.out.trans (hb10.mono (by omega)))
  clear hb10
  go_wp2_with fail
  refine (X2.out _ HQ10.out HR10.out).mono ?_
  rintro e w11 ⟨rfl, hb11⟩
  have HP11 := Lib.hid (HP10.out.below hb11)
  have HNA11 := Lib.hid (HNA10.out.below hb11)
  have HNB11 := Lib.hid (HNB10.out.below hb11)
  have HVA11 := Lib.hid (HVA10.out.below hb11 (by omega))
  have HVB11 := Lib.hid (HVB10.out.below hb11 (by omega))
  have hs11 := hb11.size
  have HB11 := Lib.hid (HB10.out.trans (hb11.mono (by omega)))
  clear hb11 X1 X2 HP9 HQ9 HR9 HS9 HP10 HQ10 HR10 HNA9 HNB9 HVA9 HVB9 HNA10 HNB10 HVA10 HVB10
  have hw11 : ba + 2 ≤ w11.heap.size := by omega
  clear hs6 hs7 hs8 hs9 hs10 hs11
  go_wp2_with fail
  go_loopw [91] (fun i wr => ∃ k : Nat, k ≤ kp ∧ i = .int .i64 k ∧ Below w11.heap.size w11 wr) (fun i _ => kp - (intOf i).toNat)
  case atStart => exact ⟨0, by omega, rfl, Below.refl _ _⟩
  case round =>
    obtain ⟨k, hk, rfl, hBr⟩ := hrel
    have hsr := hBr.size
    by_cases hlt : k < kp
    · have d8 : decide ((k : Int) < (kp : Int)) = true := by simp; omega
      obtain ⟨gp, op, rfl, hgp, hzp, y0, y1⟩ := HP11.out.at hlt
      have z0 := (hBr.cell (p := ⟨gp, op + k * 2, none⟩) hgp).trans y0
      have z1 := (hBr.cell (p := ⟨gp, op + k * 2 + 1, none⟩) hgp).trans y1
      obtain ⟨x, hx⟩ : ∃ x, P[k] = x := ⟨_, rfl⟩
      have hxm := (HPW.out.2 x).1 (by rw [← hx]; exact List.getElem_mem hzp)
      rw [hx] at z0 z1
      obtain ⟨x0, x1⟩ := x
      simp only at z0 z1
      obtain ⟨bn, hbne⟩ : ∃ bn, wr.heap.size = bn := ⟨_, rfl⟩
      obtain ⟨wa, hwa⟩ : ∃ V, wr.alloc (.cells #[.int .i64 x0, .int .i64 x1] 59) = V := ⟨_, rfl⟩
      have hba : Below bn wr wa := by rw [← hwa, ← hbne]; exact (Below.refl _ _).alloc (Nat.le_refl _) _
      have hsa : wa.heap.size = bn + 1 := by rw [← hwa]; simp [hbne]
      have hnn : wa.heap[bn]? = some (.cells #[Value.int .i64 x0, .int .i64 x1] 59 (0, 0)) := by rw [← hwa, ← hbne]; exact heap_alloc_new _ _
      have hBA : Below w11.heap.size w11 wa := hBr.trans (hba.mono (by omega))
      have HWA := Lib.hid hwa
      have HBA := Lib.hid hBA
      have hH1 : ∀ V, NamesIn V Ab kb cb lb → Calls Try.prog 35 #[.slice Ab kb cb, .agg #[.int .i64 x0, .int .i64 x1]] V fun e w' => e = .returned (.bool true) ∧ Below V.heap.size V w' := fun V h => (by
        have h := lhas_any Ab kb cb lb (x0, x1) V h (by omega)
        rw [decide_eq_true hxm.1] at h; exact h)
      have hH2 : ∀ V, NamesIn V Aa ka ca la → Calls Try.prog 35 #[.slice Aa ka ca, .agg #[.int .i64 x0, .int .i64 x1]] V fun e w' => e = .returned (.bool false) ∧ Below V.heap.size V w' := fun V h => (by
        have h := lhas_any Aa ka ca la (x0, x1) V h (by omega)
        rw [decide_eq_false hxm.2] at h; exact h)
      have H1 := Lib.hid hH1
      have H2 := Lib.hid hH2
      have hy1 := (HNB11.out.below hBA)
      have hy2 := (HNA11.out.below hBA)
      have HY1 : ∀ y : Ext wa.heap.size wa, NamesIn y.1 Ab kb cb lb := fun y => hy1.below y.2
      have HY2 : ∀ y : Ext wa.heap.size wa, NamesIn y.1 Aa ka ca la := fun y => hy2.below y.2
      have hva := HVA11.out.below hBA (by omega)
      have hvb := HVB11.out.below hBA (by omega)
      have f0 : ∀ y : Ext wa.heap.size wa, y.1.cell? ⟨ba, 1, none⟩ = some (.slice Aa ka ca) := fun y => (hva.below y.2 (by omega)).c1
      have f1 : ∀ y : Ext wa.heap.size wa, y.1.cell? ⟨ba + 1, 1, none⟩ = some (.slice Ab kb cb) := fun y => (hvb.below y.2 (by omega)).c1
      have hn0 : wa.cell? ⟨bn, 0, none⟩ = some (.int .i64 x0) := by simp [World.cell?, hnn]
      have hn1 : wa.cell? ⟨bn, 1, none⟩ = some (.int .i64 x1) := by simp [World.cell?, hnn]
      have f2 : ∀ y : Ext wa.heap.size wa, y.1.cell? ⟨bn, 0, none⟩ = some (.int .i64 x0) := fun y => (y.2.cell (p := ⟨bn, 0, none⟩) (by show bn < wa.heap.size; omega)).trans hn0
      have f3 : ∀ y : Ext wa.heap.size wa, y.1.cell? ⟨bn, 1, none⟩ = some (.int .i64 x1) := fun y => (y.2.cell (p := ⟨bn, 1, none⟩) (by show bn < wa.heap.size; omega)).trans hn1
      have HX := Lib.hid hx
      clear hwa hba hnn hn0 hn1 hva hvb hy1 hy2 hH1 hH2 y0 y1 hgp hxm hx hBr
      by_cases h0 : 0 < k
      · have d0 : decide ((0 : Int) < (k : Int)) = true := by simp; omega
        obtain ⟨jj, hjj⟩ : ∃ jj, k = jj + 1 := ⟨k - 1, by omega⟩
        have hjl : jj < kp := by omega
        obtain ⟨gp', op', hA, hgp', hzj, y0, y1⟩ := HP11.out.at hjl
        injection hA with hA
        injection hA with hA hA'
        subst hA hA'
        obtain ⟨v, hv⟩ : ∃ v, P[jj] = v := ⟨_, rfl⟩
        have hlt2 : Vm.lt v (x0, x1) := by
          rw [← hv, ← HX.out]
          exact List.pairwise_iff_getElem.1 HPW.out.1 jj k hzj hzp (by omega)
        rw [hv] at y0 y1
        obtain ⟨v0, v1⟩ := v
        simp only at y0 y1
        have f4 : ∀ y : Ext wa.heap.size wa, y.1.cell? ⟨gp, op + jj * 2, none⟩ = some (.int .i64 v0) := fun y => ((HBA.out.trans (y.2.mono (by omega))).cell (p := ⟨gp, op + jj * 2, none⟩) hgp').trans y0
        have f5 : ∀ y : Ext wa.heap.size wa, y.1.cell? ⟨gp, op + jj * 2 + 1, none⟩ = some (.int .i64 v1) := fun y => ((HBA.out.trans (y.2.mono (by omega))).cell (p := ⟨gp, op + jj * 2 + 1, none⟩) hgp').trans y1
        have j1 : (k : Int) - 1 = (jj : Int) := by omega
        have j2 : (jj : Int) < (kp : Int) := by omega
        have j3 : (0 : Int) ≤ (jj : Int) := by omega
        clear hv y0 y1 hgp' hzj hjj
        rcases hlt2 with hl | ⟨rfl, hl⟩
        · have hl : v0 < x0 := hl
          have c1 : decide (x0 < v0) = false := by simp; omega
          have c2 : (v0 == x0) = false := beq_eq_false_iff_ne.2 (by omega)
          clear hl
          go_wp2_with fail
          rw [HWA.out]
          refine wp_region_below wa.heap.size (by kernel_rfl) (by kernel_rfl) ?_
          repeat (go_big_quiet_step ((first | (go_at_call 35; with_reducible exact Calls.ext_of _ (Nat.le_refl _) (H1.out _ (HY1 _))) | (go_at_call 35; with_reducible exact Calls.ext_of _ (Nat.le_refl _) (H2.out _ (HY2 _))))))
          refine wpQuiet_nil ?_
          intro w13 hB13
          have HB13 := Lib.hid (HBA.out.trans (hB13.mono (by omega)))
          clear hB13
          go_wp2_with fail
          go_roundw
          case rel => exact ⟨k + 1, by omega, by go_num, HB13.out⟩
          case measure => simp [intOf]; omega
        · have hl : v1 < x1 := hl
          have c1 : decide (v0 < v0) = false := by simp
          have c2 : decide (x1 ≤ v1) = false := by simp; omega
          clear hl
          go_wp2_with fail
          rw [HWA.out]
          refine wp_region_below wa.heap.size (by kernel_rfl) (by kernel_rfl) ?_
          repeat (go_big_quiet_step ((first | (go_at_call 35; with_reducible exact Calls.ext_of _ (Nat.le_refl _) (H1.out _ (HY1 _))) | (go_at_call 35; with_reducible exact Calls.ext_of _ (Nat.le_refl _) (H2.out _ (HY2 _))))))
          refine wpQuiet_nil ?_
          intro w13 hB13
          have HB13 := Lib.hid (HBA.out.trans (hB13.mono (by omega)))
          clear hB13
          go_wp2_with fail
          go_roundw
          case rel => exact ⟨k + 1, by omega, by go_num, HB13.out⟩
          case measure => simp [intOf]; omega
      · have d0 : decide ((0 : Int) < (k : Int)) = false := by simp; omega
        go_wp2_with fail
        rw [HWA.out]
        refine wp_region_below wa.heap.size (by kernel_rfl) (by kernel_rfl) ?_
        repeat (go_big_quiet_step ((first | (go_at_call 35; with_reducible exact Calls.ext_of _ (Nat.le_refl _) (H1.out _ (HY1 _))) | (go_at_call 35; with_reducible exact Calls.ext_of _ (Nat.le_refl _) (H2.out _ (HY2 _))))))
        refine wpQuiet_nil ?_
        intro w13 hB13
        have HB13 := Lib.hid (HBA.out.trans (hB13.mono (by omega)))
        clear hB13
        go_wp2_with fail
        go_roundw
        case rel => exact ⟨k + 1, by omega, by go_num, HB13.out⟩
        case measure => simp [intOf]; omega
    · obtain rfl : k = kp := by omega
      have d8 : decide ((k : Int) < (k : Int)) = false := by simp
      have hvb := HVB11.out.below hBr (by omega)
      have q1 := hvb.c1
      have HBR := Lib.hid hBr
      obtain ⟨wm, hwm⟩ : ∃ wm : World, wm = wr := ⟨_, rfl⟩
      rw [← hwm] at HBR q1 hsr ⊢
      clear hvb hBr hwm
      go_wp2_with fail
      go_loopw [148] (fun i wr => ∃ j : Nat, j ≤ kb ∧ i = .int .i64 j ∧ Below w11.heap.size w11 wr) (fun i _ => kb - (intOf i).toNat)
      case atStart => exact ⟨0, by omega, rfl, HBR.out⟩
      case round =>
        obtain ⟨j, hj, rfl, hBr⟩ := hrel
        have hsr := hBr.size
        by_cases hlt : j < kb
        · have d9 : decide ((j : Int) < (kb : Int)) = true := by simp; omega
          obtain ⟨gb, ob, rfl, hgb, hzb, y0, y1⟩ := HNB11.out.at hlt
          have z0 := (hBr.cell (p := ⟨gb, ob + j * 2, none⟩) hgb).trans y0
          have z1 := (hBr.cell (p := ⟨gb, ob + j * 2 + 1, none⟩) hgb).trans y1
          obtain ⟨x, hx⟩ : ∃ x, lb[j] = x := ⟨_, rfl⟩
          have hxm : x ∈ lb := by rw [← hx]; exact List.getElem_mem hzb
          rw [hx] at z0 z1
          obtain ⟨x0, x1⟩ := x
          simp only at z0 z1
          obtain ⟨bn, hbne⟩ : ∃ bn, wr.heap.size = bn := ⟨_, rfl⟩
          obtain ⟨wa, hwa⟩ : ∃ V, wr.alloc (.cells #[.int .i64 x0, .int .i64 x1] 59) = V := ⟨_, rfl⟩
          have hba : Below bn wr wa := by rw [← hwa, ← hbne]; exact (Below.refl _ _).alloc (Nat.le_refl _) _
          have hsa : wa.heap.size = bn + 1 := by rw [← hwa]; simp [hbne]
          have hnn : wa.heap[bn]? = some (.cells #[Value.int .i64 x0, .int .i64 x1] 59 (0, 0)) := by rw [← hwa, ← hbne]; exact heap_alloc_new _ _
          have hBA : Below w11.heap.size w11 wa := hBr.trans (hba.mono (by omega))
          have hva := HVA11.out.below hBr (by omega)
          have hva' := HVA11.out.below hBA (by omega)
          have q1 := hva.c1
          have q2 : (wr.alloc (.cells #[.int .i64 x0, .int .i64 x1] 59)).cell? ⟨ba, 1, none⟩ = some (.slice Aa ka ca) := by rw [hwa]; exact hva'.c1
          have hbl : ba < wr.heap.size := by omega
          have HWA := Lib.hid hwa
          have HBA := Lib.hid hBA
          have HNN := Lib.hid hnn
          have HNA12 := Lib.hid (HNA11.out.below hBA)
          have HP12 := Lib.hid (HP11.out.below hBA)
          clear hwa hba hnn hva hva' hBA y0 y1 hgb hzb hx hBr
          by_cases hxa : (x0, x1) ∈ la
          · have H1 := Lib.hid (fun V h => (by
              have h := lhas_any Aa ka ca la (x0, x1) V h (by omega)
              rw [decide_eq_true hxa] at h; exact h : Calls Try.prog 35 #[.slice Aa ka ca, .agg #[.int .i64 x0, .int .i64 x1]] V fun e w' => e = .returned (.bool true) ∧ Below V.heap.size V w'))
            clear hxa hxm
            go_wp2_with fail
            rw [HWA.out]
            refine (H1.out _ HNA12.out).mono ?_
            rintro e w13 ⟨rfl, hb13⟩
            have HB13 := Lib.hid (HBA.out.trans (hb13.mono (by omega)))
            clear hb13
            go_wp2_with fail
            go_roundw
            case rel => exact ⟨j + 1, by omega, by go_num, HB13.out⟩
            case measure => simp [intOf]; omega
          · have H1 := Lib.hid (fun V h => (by
              have h := lhas_any Aa ka ca la (x0, x1) V h (by omega)
              rw [decide_eq_false hxa] at h; exact h : Calls Try.prog 35 #[.slice Aa ka ca, .agg #[.int .i64 x0, .int .i64 x1]] V fun e w' => e = .returned (.bool false) ∧ Below V.heap.size V w'))
            have hxp := (HPW.out.2 (x0, x1)).2 ⟨hxm, hxa⟩
            have H2 := Lib.hid (fun V h => (by
              have h := lhas_any Ap k cp P (x0, x1) V h (by omega)
              rw [decide_eq_true hxp] at h; exact h : Calls Try.prog 35 #[.slice Ap k cp, .agg #[.int .i64 x0, .int .i64 x1]] V fun e w' => e = .returned (.bool true) ∧ Below V.heap.size V w'))
            clear hxa hxm hxp
            go_wp2_with fail
            rw [HWA.out]
            refine (H1.out _ HNA12.out).mono ?_
            rintro e w13 ⟨rfl, hb13⟩
            have HB13 := Lib.hid (HBA.out.trans (hb13.mono (by omega)))
            have HP13 := Lib.hid (HP12.out.below hb13)
            have hn0 : w13.heap[bn]? = some (.cells #[Value.int .i64 x0, .int .i64 x1] 59 (0, 0)) := (hb13.block bn (by omega)).trans HNN.out
            have r0 : w13.cell? ⟨bn, 0, none⟩ = some (.int .i64 x0) := by simp [World.cell?, hn0]
            have r1 : w13.cell? ⟨bn, 1, none⟩ = some (.int .i64 x1) := by simp [World.cell?, hn0]
            have hs13 := hb13.size
            clear hb13 hn0
            go_wp2_with fail
            refine (H2.out _ HP13.out).mono ?_
            rintro e w14 ⟨rfl, hb14⟩
            have HB14 := Lib.hid (HB13.out.trans (hb14.mono (by omega)))
            clear hb14
            go_wp2_with fail
            go_roundw
            case rel => exact ⟨j + 1, by omega, by go_num, HB14.out⟩
            case measure => simp [intOf]; omega
        · obtain rfl : j = kb := by omega
          have d9 : decide ((j : Int) < (j : Int)) = false := by simp
          have HBZ := Lib.hid (HB11.out.trans (hBr.mono (by omega)))
          clear hBr
          go_wp2_with fail
          go_ret
          exact ⟨rfl, HBZ.out⟩

end Go.Proofs.Ytebkgndcgcdogaa
