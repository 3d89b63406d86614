/-
  ManifestDoes: its walk.
-/
import Derived.Test.YtebkgndcgcdogaaVn
import Derived.Test.YtebkgndcgcdogaaManG
import Derived.Deep.RegionHeld3
import Derived.Deep.DrawnRows
namespace Go.Proofs.Ytebkgndcgcdogaa
open Go.RowKit
set_option maxHeartbeats 4000000

theorem Vm.ofV_two_len (num : Int) (l : List (List UInt8)) : (Vm.ofV num l).2.1.length ≤ 256 := Vm.ofV_len num l

theorem Vm.chg_len (m : Int) (a : List Vm.Nm) (n : Int) (b : List Vm.Nm) : (Vm.chg m a n b).1.length ≤ b.length ∧ (Vm.chg m a n b).2.1.length ≤ a.length := by
  have h1 := Vm.wo_len b a
  have h2 := Vm.wo_len a b
  unfold Vm.chg
  split
  · split
    · exact ⟨h1, h2⟩
    · exact ⟨Nat.zero_le _, Nat.zero_le _⟩
  · exact ⟨Nat.zero_le _, Nat.zero_le _⟩

set_option maxRecDepth 100000 in
theorem manifestDoes_walk (A : Option Addr) (n c : Nat) (z : List Int) (rn : Int) (Ar : Option Addr) (nr cr : Nat) (lr : List Vm.Nm) (Al : Option Addr) (nl cl : Nat) (ll : List (List UInt8)) (nu : Int) (w : World) (hz : IntsIn .i64 w A n c z) (hc : c * Try.prog.bytesOf 3 ≤ 140737488351232)
    (hl : NamesIn w Ar nr cr lr) (hcr : cr * Try.prog.bytesOf 59 ≤ 140737488351232) (hll : CellsIn w Al nl cl (ll.map Cm.str)) (_ : Al = none → nl = 0 ∧ cl = 0) (hcl : cl * Try.prog.bytesOf 9 ≤ 140737488351232) (hlz : ∀ x ∈ ll, x.length ≤ 140737488351232)
    (hn0 : -9223372036854775808 ≤ nu) (hn1 : nu ≤ 9223372036854775807) :
    Calls Try.prog 3 #[.slice A n c, .agg #[.int .i64 rn, .slice Ar nr cr], .slice Al nl cl, .int .i64 nu] w fun e w' => e = .returned (.bool true) ∧ Below w.heap.size w w' := by
  have hb8 : Try.prog.bytesOf 3 = 8 := by kernel_rfl
  have hb16 : Try.prog.bytesOf 59 = 16 := by kernel_rfl
  have hb17 : Try.prog.bytesOf 9 = 16 := by kernel_rfl
  rw [hb8] at hc
  rw [hb16] at hcr
  rw [hb17] at hcl
  have hnc := hz.2.1
  have hncr := hl.2.1
  have hncl := hll.2.1
  have hn : n ≤ 17592186044416 := by omega
  have hnr : nr ≤ 17592186044416 := by omega
  have hnl : nl ≤ 17592186044416 := by omega
  clear hb8 hc hnc hb16 hcr hncr hb17 hcl hncl
  have F1 := Lib.hid (fun V => few_any A n c V (by omega))
  obtain ⟨sm, hsm⟩ : ∃ sm, decide (IntKind.i64.wrap (Vm.weigh ll) < 2000) = sm := ⟨_, rfl⟩
  have S0 := Lib.hid (fun V h => hsm ▸ small_any Al nl cl ll V h (fun x hx => by have := hlz x hx; omega) (by omega))
  obtain ⟨B, hB⟩ : ∃ B, w.heap.size = B := ⟨_, rfl⟩
  obtain ⟨wr0, hwr0⟩ : ∃ V, w.alloc (.cells #[.int .i64 rn, .slice Ar nr cr] 25) = V := ⟨_, rfl⟩
  have hbw : Below B w wr0 := by rw [← hwr0, ← hB]; exact (Below.refl _ _).alloc (Nat.le_refl _) _
  have hsw : wr0.heap.size = B + 1 := by rw [← hwr0]; simp [hB]
  have hvr : VB B rn (.slice Ar nr cr) wr0 := by rw [← hwr0, ← hB]; exact heap_alloc_new _ _
  have HWR := Lib.hid hwr0
  have HBW := Lib.hid hbw
  have HVR := Lib.hid hvr
  have HBB := Lib.hid hB
  have hzr : IntsIn .i64 wr0 A n c z := hz.below (by rw [hB]; exact hbw)
  have HLR := Lib.hid (hl.below (by rw [hB]; exact hbw))
  have HLL := Lib.hid (hll.below (by rw [hB]; exact hbw))
  clear hwr0 hbw hvr hz hl hll
  by_cases h500 : 500 < n
  · have d1 : decide ((n : Int) ≤ 500) = false := by simp; omega
    go_enter Try.func3, Try.ntmps3
    go_wp2_with fail
    rw [HWR.out]
    refine (vsane_any _).mono ?_
    rintro e w1 ⟨rfl, hB1⟩
    have hv := HVR.out.below hB1 (by omega)
    have q1 := hv.c1
    go_wp2_with fail
    refine (F1.out _).mono ?_
    rintro e w2 ⟨rfl, rfl⟩
    go_wp2_with fail
    go_ret
    exact ⟨rfl, (HBW.out.trans (hB1.mono (by omega))).mono (by rw [HBB.out]; exact Nat.le_refl _)⟩
  have d1 : decide ((n : Int) ≤ 500) = true := by simp; omega
  by_cases h400 : 400 < nr
  · have d2 : decide ((400 : Int) < (nr : Int)) = true := by simp; omega
    go_enter Try.func3, Try.ntmps3
    go_wp2_with fail
    rw [HWR.out]
    refine (vsane_any _).mono ?_
    rintro e w1 ⟨rfl, hB1⟩
    have hv := HVR.out.below hB1 (by omega)
    have q1 := hv.c1
    go_wp2_with fail
    refine (F1.out _).mono ?_
    rintro e w2 ⟨rfl, rfl⟩
    go_wp2_with fail
    go_ret
    exact ⟨rfl, (HBW.out.trans (hB1.mono (by omega))).mono (by rw [HBB.out]; exact Nat.le_refl _)⟩
  have d2 : decide ((400 : Int) < (nr : Int)) = false := by simp; omega
  cases sm with
  | false =>
    go_enter Try.func3, Try.ntmps3
    go_wp2_with fail
    rw [HWR.out]
    refine (vsane_any _).mono ?_
    rintro e w1 ⟨rfl, hB1⟩
    have hv := HVR.out.below hB1 (by omega)
    have q1 := hv.c1
    go_wp2_with fail
    refine (F1.out _).mono ?_
    rintro e w2 ⟨rfl, rfl⟩
    go_wp2_with fail
    refine (S0.out _ (HLL.out.below hB1)).mono ?_
    rintro e w2 ⟨rfl, hB2⟩
    have HB2 := Lib.hid ((HBW.out.trans ((hB1.trans (hB2.mono hB1.size)).mono (by omega))).mono (show w.heap.size ≤ B by rw [HBB.out]; exact Nat.le_refl _))
    clear hB1 hB2 hv
    go_wp2_with fail
    go_ret
    exact ⟨rfl, HB2.out⟩
  | true =>
  clear hsm
  have hnr4 : nr ≤ 400 := by omega
  have N1 := Lib.hid (fun V hb => new_any A n c wr0 V hb)
  have K1 := Lib.hid (fun g V hd => mkChunks_any A n c z g wr0 V hzr hn hd)
  have K2 := Lib.hid (fun g V hd => mkVersion_any A n c z g wr0 V hzr hn hd)
  clear hzr h500 h400
  go_enter Try.func3, Try.ntmps3
  go_wp2_with fail
  rw [HWR.out]
  refine (vsane_any _).mono ?_
  rintro e w1 ⟨rfl, hB1⟩
  have hv := HVR.out.below hB1 (by omega)
  have q1 := hv.c1
  clear hv
  go_wp2_with fail
  refine (F1.out _).mono ?_
  rintro e w2 ⟨rfl, rfl⟩
  go_wp2_with fail
  refine (S0.out _ (HLL.out.below hB1)).mono ?_
  rintro e w2 ⟨rfl, hB2⟩
  have hB12 := hB1.trans (hB2.mono hB1.size)
  clear hB1 hB2 q1
  go_wp2_with fail
  refine (N1.out _ hB12).mono ?_
  rintro e w3 ⟨rfl, hd3, _⟩
  obtain ⟨g, hg⟩ : ∃ g, w2.heap.size = g := ⟨_, rfl⟩
  rw [hg] at hd3 ⊢
  have HD3 := Lib.hid hd3
  clear hd3 hB12 hg
  go_wp2_with fail
  refine (K1.out g _ HD3.out).mono ?_
  rintro e w4 ⟨A1, n1, c1, l1, rfl, hci, _, hfw, hd4, _⟩
  have HCI4 := Lib.hid hci
  have HFW := Lib.hid hfw
  have HD4 := Lib.hid hd4
  clear hci hfw hd4 HD3
  go_wp2_with fail
  refine (K2.out g _ HD4.out).mono ?_
  rintro e w5 ⟨na, Aa, ka, ca, la, rfl, hna, hma, hd5, hk5⟩
  have HCI5 := Lib.hid (strsIn_kept HCI4.out HD4.out hk5)
  have HNA5 := Lib.hid hna
  have hka : la.length = ka := hna.1
  have hka6 : ka ≤ 60 := by rw [← hka]; exact hma.2
  have HD5 := Lib.hid hd5
  clear hna hma hd5 hk5 HD4 HCI4
  go_wp2_with fail
  refine (K2.out g _ HD5.out).mono ?_
  rintro e w6 ⟨nb, Ab, kb, cb, lb, rfl, hnb, hmb, hd6, hk6⟩
  have HCI6 := Lib.hid (strsIn_kept HCI5.out HD5.out hk6)
  have HNA6 := Lib.hid (HNA5.out.kept HD5.out hk6)
  have HNB6 := Lib.hid hnb
  have hkb : lb.length = kb := hnb.1
  have hkb6 : kb ≤ 60 := by rw [← hkb]; exact hmb.2
  have HB6 := Lib.hid hd6.1
  have b6 := hd6.1.size
  have hl1 : l1.length = n1 := by have := HCI6.out.1; simpa using this
  have hl60 := Vm.few_len HFW.out
  rw [hl1] at hl60
  clear hnb hmb hd6 hk6 HD5 HCI5 HNA5 N1 K1 K2 F1 S0 hka hkb
  obtain ⟨ba, hbae⟩ : ∃ b, w6.heap.size = b := ⟨_, rfl⟩
  obtain ⟨w7, hw7⟩ : ∃ V, (w6.alloc (.cells #[.int .i64 na, .slice Aa ka ca] 25)).alloc (.cells #[.int .i64 nb, .slice Ab kb cb] 25) = V := ⟨_, rfl⟩
  have hb7 : Below ba w6 w7 := by rw [← hw7, ← hbae]; exact ((Below.refl _ _).alloc (Nat.le_refl _) _).alloc (by simp) _
  have hs7 : w7.heap.size = ba + 2 := by rw [← hw7]; simp [hbae]
  have hva : VB ba na (.slice Aa ka ca) w7 := by
    rw [← hw7, ← hbae]
    exact (Below.heap_alloc _ _ _ (by simp)).trans (heap_alloc_new _ _)
  have hvb : VB (ba + 1) nb (.slice Ab kb cb) w7 := by
    rw [← hw7, ← hbae]
    have := heap_alloc_new (w6.alloc (.cells #[.int .i64 na, .slice Aa ka ca] 25)) (.cells #[.int .i64 nb, .slice Ab kb cb] 25)
    rw [World.size_alloc] at this
    exact this
  have HW7 := Lib.hid hw7
  have HVA7 := Lib.hid hva
  have HVB7 := Lib.hid hvb
  have HCI7 := Lib.hid (HCI6.out.below (by rw [hbae]; exact hb7))
  have HNA7 := Lib.hid (HNA6.out.below (by rw [hbae]; exact hb7))
  have HNB7 := Lib.hid (HNB6.out.below (by rw [hbae]; exact hb7))
  have HB7 := Lib.hid (HB6.out.trans (hb7.mono (by omega)))
  have O1 := Lib.hid (fun V h => rof_any' 3 A1 n1 c1 l1 V h (fun y hy => by have := (HFW.out.2 y hy).2; omega) (by omega))
  clear hw7 hb7 hva hvb HCI6 HNA6 HNB6 HB6
  go_wp2_with fail
  rw [HW7.out]
  refine (O1.out _ HCI7.out).mono ?_
  rintro e w8 ⟨v8, rfl, ho8, hb8⟩
  obtain ⟨A8, c8, rfl, hn8⟩ := own_names ho8
  obtain ⟨r, hr⟩ : ∃ r, Vm.ofV 3 l1 = r := ⟨_, rfl⟩
  have hrl := Vm.ofV_len 3 l1
  rw [hr] at hn8 hrl ⊢
  obtain ⟨po, lo, eo⟩ := r
  simp only at hn8 hrl ⊢
  obtain ⟨ko, hko⟩ : ∃ k, lo.length = k := ⟨_, rfl⟩
  rw [hko] at hn8 hrl ⊢
  have z8 := hb8.size
  obtain ⟨bo, hboe⟩ : ∃ b, w8.heap.size = b := ⟨_, rfl⟩
  obtain ⟨w9, hw9⟩ : ∃ V, w8.alloc (.cells #[.int .i64 po, .slice A8 ko c8] 25) = V := ⟨_, rfl⟩
  have hb9 : Below bo w8 w9 := by rw [← hw9, ← hboe]; exact (Below.refl _ _).alloc (Nat.le_refl _) _
  have hs9 : w9.heap.size = bo + 1 := by rw [← hw9]; simp [hboe]
  have hvo : VB bo po (.slice A8 ko c8) w9 := by rw [← hw9, ← hboe]; exact heap_alloc_new _ _
  have hb89 := hb8.trans (hb9.mono (by omega))
  have HW9 := Lib.hid hw9
  have HVO := Lib.hid hvo
  have HNO := Lib.hid (hn8.below (by rw [hboe]; exact hb9))
  have HVA := Lib.hid (HVA7.out.below hb89 (by omega))
  have HVB := Lib.hid (HVB7.out.below hb89 (by omega))
  have HCI := Lib.hid (HCI7.out.below hb89)
  have HNA := Lib.hid (HNA7.out.below hb89)
  have HNB := Lib.hid (HNB7.out.below hb89)
  have HB9 := Lib.hid (HB7.out.trans (hb89.mono (by omega)))
  have HLR9 := Lib.hid (HLR.out.below HB9.out)
  have HLL9 := Lib.hid (HLL.out.below HB9.out)
  have HVR9 := Lib.hid (HVR.out.below HB9.out (by omega))
  clear ho8 hn8 hb8 hw9 hb9 hvo hb89 hr hko HVA7 HVB7 HCI7 HNA7 HNB7 HB7 O1
  go_wp2_with fail
  rw [HW9.out]
  obtain ⟨W0, hW0⟩ : ∃ V, w9.alloc (.cells #[.slice Al nl cl, .slice A1 n1 c1] 26) = V := ⟨_, rfl⟩
  have hb0 : Below (bo + 1) w9 W0 := by rw [← hW0, ← hs9]; exact (Below.refl _ _).alloc (Nat.le_refl _) _
  have hs0 : W0.heap.size = bo + 2 := by rw [← hW0]; simp [hs9]
  have hcell : ∀ k, W0.cell? ⟨bo + 1, k, none⟩ = (#[Value.slice Al nl cl, Value.slice A1 n1 c1] : Array Value)[k]? := fun k => by rw [← hW0]; exact cell_new_at _ _ _ _ hs9.symm k
  have hl1z : ∀ x ∈ l1, x.length ≤ 140737488351232 := fun x hx => by have := (HFW.out.2 x hx).2; omega
  have QC := Lib.hid (show ∀ j, j < 2 → ∃ (Aq : Option Addr) (nq cq : Nat) (lq : List (List UInt8)), W0.cell? ⟨bo + 1, j, none⟩ = some (.slice Aq nq cq) ∧ CellsIn W0 Aq nq cq (lq.map Cm.str) ∧ nq ≤ 17592186044416 ∧ ∀ x ∈ lq, x.length ≤ 140737488351232 from fun j hj => by
    match j, hj with
    | 0, _ => exact ⟨Al, nl, cl, ll, (hcell 0), HLL9.out.below (by rw [hs9]; exact hb0), hnl, hlz⟩
    | 1, _ => exact ⟨A1, n1, c1, l1, (hcell 1), HCI.out.below (by rw [hs9]; exact hb0), by omega, hl1z⟩)
  have HB0 := Lib.hid (HB9.out.trans (hb0.mono (by omega)))
  have HVR0 := Lib.hid (HVR9.out.below hb0 (by omega))
  have HVA0 := Lib.hid (HVA.out.below hb0 (by omega))
  have HVB0 := Lib.hid (HVB.out.below hb0 (by omega))
  have HVO0 := Lib.hid (HVO.out.below hb0 (by omega))
  have HLR0 := Lib.hid (HLR9.out.below (by rw [hs9]; exact hb0))
  have HNA0 := Lib.hid (HNA.out.below (by rw [hs9]; exact hb0))
  have HNB0 := Lib.hid (HNB.out.below (by rw [hs9]; exact hb0))
  have HNO0 := Lib.hid (HNO.out.below (by rw [hs9]; exact hb0))
  have HW0 := Lib.hid hW0
  rw [hW0]
  have M9 := Lib.hid (fun V => mkMod_any nu 9 V hn0 hn1 (by decide) (by decide))
  obtain ⟨r9, hr9⟩ : ∃ r, nu % 9 = r := ⟨_, rfl⟩
  have hr90 : 0 ≤ r9 := by omega
  have hr91 : r9 < 9 := by omega
  rw [hr9] at M9
  have hbaB : B + 1 ≤ ba := by omega
  have hbab : ba + 2 ≤ bo := by omega
  clear hW0 hb0 hcell hl1z HB9 HVR9 HVA HVB HVO HLR9 HNA HNB HNO HLL9 HCI HFW hr9 hl1 hlz z8 hs9 hs7 hl60 b6
  go_loopw [74] (fun i wr => ∃ j : Nat, j ≤ 2 ∧ i = .int .i64 j ∧ Below (bo + 2) W0 wr) (fun i _ => 2 - (intOf i).toNat)
  case atStart => exact ⟨0, by omega, rfl, Below.refl _ _⟩
  case round =>
    obtain ⟨j, hj, rfl, hBr⟩ := hrel
    have zr := hBr.size
    have HBr := Lib.hid hBr
    by_cases hlt : j < 2
    · have d8 : decide ((j : Int) < 2) = true := by simp; omega
      obtain ⟨Aq, nq, cq, lq, hqc, hqi, hnq, hqz⟩ := QC.out j hlt
      have hcj := (hBr.cell (p := ⟨bo + 1, j, none⟩) (by show bo + 1 < bo + 2; omega)).trans hqc
      have hqr := hqi.below (show Below W0.heap.size W0 wr by rw [hs0]; exact hBr)
      have HQR := Lib.hid hqr
      have HQZ := Lib.hid hqz
      clear hqc hqi hqr hqz hBr
      obtain ⟨wo, hwo⟩ : ∃ wo : World, wo = wr := ⟨_, rfl⟩
      rw [← hwo] at HBr zr hcj HQR ⊢
      clear hwo
      go_wp2_with fail
      refine (M9.out _).mono ?_
      rintro e' w' ⟨rfl, rfl⟩
      have m1 : IntKind.i64.wrap (1 + r9) = 1 + r9 := IntWalk.i64_in _ (by omega)
      obtain ⟨G1, hG1⟩ : ∃ G, wo.heap.size = G := ⟨_, rfl⟩
      obtain ⟨W1, hW1⟩ : ∃ V, wo.alloc (.cells #[.int .i64 nu, .int .i64 (1 + r9)] 3) = V := ⟨_, rfl⟩
      have hb1 : Below G1 wo W1 := by rw [← hW1, ← hG1]; exact (Below.refl _ _).alloc (Nat.le_refl _) _
      have hs1 : W1.heap.size = G1 + 1 := by rw [← hW1]; simp [hG1]
      have hc0 : W1.cell? ⟨G1, 0, none⟩ = some (.int .i64 nu) := by rw [← hW1]; exact cell_new_at _ _ _ _ hG1.symm 0
      have hc1 : W1.cell? ⟨G1, 1, none⟩ = some (.int .i64 (1 + r9)) := by rw [← hW1]; exact cell_new_at _ _ _ _ hG1.symm 1
      have NC := Lib.hid (show ∀ k, k < 2 → ∃ x : Int, W1.cell? ⟨G1, k, none⟩ = some (.int .i64 x) from fun k hk => by
        match k, hk with
        | 0, _ => exact ⟨_, hc0⟩
        | 1, _ => exact ⟨_, hc1⟩)
      have HW1 := Lib.hid hW1
      have HQ1 := Lib.hid (HQR.out.below (by rw [hG1]; exact hb1))
      have HB1 := Lib.hid (HBr.out.trans (hb1.mono (by omega)))
      clear hW1 hb1 hc0 hc1
      go_wp2_with fail
      rw [HW1.out]
      go_loopw [84] (fun i wr => ∃ k : Nat, k ≤ 2 ∧ i = .int .i64 k ∧ Below (G1 + 1) W1 wr) (fun i _ => 2 - (intOf i).toNat)
      case atStart => exact ⟨0, by omega, rfl, Below.refl _ _⟩
      case round =>
        obtain ⟨k, hk, rfl, hBk⟩ := hrel
        have zk := hBk.size
        have HBk := Lib.hid hBk
        by_cases hlk : k < 2
        · have d9 : decide ((k : Int) < 2) = true := by simp; omega
          obtain ⟨x, hxc⟩ := NC.out k hlk
          have hcx := (hBk.cell (p := ⟨G1, k, none⟩) (by show G1 < G1 + 1; omega)).trans hxc
          have HQk := Lib.hid (HQ1.out.below (show Below W1.heap.size W1 wr by rw [hs1]; exact hBk))
          obtain ⟨r, hr⟩ : ∃ r, Vm.ofV x lq = r := ⟨_, rfl⟩
          have hrl := Vm.ofV_len x lq
          have D1 := Lib.hid (fun V h => hr ▸ mof_any x Aq nq cq lq V h (fun y hy => by have := HQZ.out y hy; omega) hnq)
          have D2 := Lib.hid (fun V h => hr ▸ rof_any' x Aq nq cq lq V h (fun y hy => by have := HQZ.out y hy; omega) hnq)
          rw [hr] at hrl
          obtain ⟨p, q, e⟩ := r
          simp only at hrl
          clear hr hxc hBk
          obtain ⟨wp, hwp⟩ : ∃ wp : World, wp = wr := ⟨_, rfl⟩
          rw [← hwp] at HBk zk hcx HQk ⊢
          clear hwp
          go_wp2_with fail
          refine (D1.out _ HQk.out).mono ?_
          rintro e' w8 ⟨v8, rfl, ho8, hb8⟩
          obtain ⟨A8, c8, rfl, hn8⟩ := own_names ho8
          have z8 := hb8.size
          have HB8 := Lib.hid (HBk.out.trans (hb8.mono (by omega)))
          have hnl' : q.length ≤ 17592186044416 := by omega
          obtain ⟨b8, hb8e⟩ : ∃ b, w8.heap.size = b := ⟨_, rfl⟩
          obtain ⟨w9', hw9⟩ : ∃ V, w8.alloc (.cells #[.int .i64 p, .slice A8 q.length c8] 25) = V := ⟨_, rfl⟩
          have hb9 : Below b8 w8 w9' := by rw [← hw9, ← hb8e]; exact (Below.refl _ _).alloc (Nat.le_refl _) _
          have hs9 : w9'.heap.size = b8 + 1 := by rw [← hw9]; simp [hb8e]
          have hv9 : VB b8 p (.slice A8 q.length c8) w9' := by rw [← hw9, ← hb8e]; exact heap_alloc_new _ _
          have HW9' := Lib.hid hw9
          have HN9 := Lib.hid (hn8.below (by rw [hb8e]; exact hb9))
          have HV9 := Lib.hid hv9
          have HQ9 := Lib.hid ((HQk.out.below hb8).below (by rw [hb8e]; exact hb9))
          have HB9' := Lib.hid (HB8.out.trans (hb9.mono (by omega)))
          clear ho8 hn8 hb8 hw9 hb9 hv9 hcx
          go_wp2_with fail
          rw [HW9'.out]
          refine (D2.out _ HQ9.out).mono ?_
          rintro e' w10 ⟨v10, rfl, ho10, hb10⟩
          obtain ⟨A10, c10, rfl, hn10⟩ := own_names ho10
          have z10 := hb10.size
          have hv10 := HV9.out.below hb10 (by omega)
          have hn9 := HN9.out.below hb10
          have HB10 := Lib.hid (HB9'.out.trans (hb10.mono (by omega)))
          have k0 := hv10.c0
          have k1 := hv10.c1
          obtain ⟨b10, hb10e⟩ : ∃ b, w10.heap.size = b := ⟨_, rfl⟩
          obtain ⟨w11, hw11⟩ : ∃ V, w10.alloc (.cells #[.int .i64 p, .slice A10 q.length c10] 25) = V := ⟨_, rfl⟩
          have hb11 : Below b10 w10 w11 := by rw [← hw11, ← hb10e]; exact (Below.refl _ _).alloc (Nat.le_refl _) _
          have hv11 := hv10.below hb11 (by omega)
          have k2 : (w10.alloc (.cells #[.int .i64 p, .slice A10 q.length c10] 25)).cell? ⟨b8, 0, none⟩ = some (.int .i64 p) := by rw [hw11]; exact hv11.c0
          have k3 : (w10.alloc (.cells #[.int .i64 p, .slice A10 q.length c10] 25)).cell? ⟨b8, 1, none⟩ = some (.slice A8 q.length c8) := by rw [hw11]; exact hv11.c1
          have hbl : b8 < w10.heap.size := by omega
          have X1 := Lib.hid (fun V h h' => (by
            have h := rsameV_any p p A8 A10 q.length q.length c8 c10 q q V h h' hnl' hnl'
            rw [decide_eq_true (⟨rfl, rfl⟩ : p = p ∧ q = q)] at h
            exact h : Calls Try.prog 18 #[.agg #[.int .i64 p, .slice A8 q.length c8], .agg #[.int .i64 p, .slice A10 q.length c10]] V fun e w' => e = .returned (.bool true) ∧ Below V.heap.size V w'))
          have HW11 := Lib.hid hw11
          have HN11 := Lib.hid (hn9.below (by rw [hb10e]; exact hb11))
          have HM11 := Lib.hid (hn10.below (by rw [hb10e]; exact hb11))
          have HB11 := Lib.hid (HB10.out.trans (hb11.mono (by omega)))
          have hz11 : b10 ≤ w11.heap.size := by rw [← hb10e]; exact hb11.size
          have hee : (e != e) = false := by simp
          clear ho10 hn10 hb10 hw11 hb11 hv10 hv11 hn9
          go_wp2_with fail
          rw [HW11.out]
          refine (X1.out _ HN11.out HM11.out).mono ?_
          rintro e' w12 ⟨rfl, hb12⟩
          have HB12 := Lib.hid (HB11.out.trans (hb12.mono (by omega)))
          clear hb12 k0 k1 k2 k3
          go_wp2_with fail
          go_roundw
          case rel => exact ⟨k + 1, by omega, by go_num, HB12.out⟩
          case measure => simp [intOf]; omega
        · obtain rfl : k = 2 := by omega
          have d9 : decide (((2 : Nat) : Int) < 2) = false := by decide
          have hb2 := HB1.out.trans (hBk.mono (by omega))
          have hb2' := hb2.mono (show bo + 1 ≤ bo + 2 by omega)
          have hv1 := HVR0.out.below hb2 (by omega)
          have hv2 := HVA0.out.below hb2 (by omega)
          have hv3 := HVO0.out.below hb2 (by omega)
          have q0 := hv1.c0
          have q1 := hv1.c1
          have q2 := hv2.c0
          have q3 := hv2.c1
          have q4 := hv3.c0
          have q5 := hv3.c1
          have HB2 := Lib.hid hb2
          have HQ2 := Lib.hid (HQ1.out.below (show Below W1.heap.size W1 wr by rw [hs1]; exact hBk))
          have HLR2 := Lib.hid (HLR0.out.below (by rw [hs0]; exact hb2))
          have HNA2 := Lib.hid (HNA0.out.below (by rw [hs0]; exact hb2))
          have HNO2 := Lib.hid (HNO0.out.below (by rw [hs0]; exact hb2))
          obtain ⟨wp, hwp⟩ : ∃ wp : World, wp = wr := ⟨_, rfl⟩
          rw [← hwp] at HB2 zk HQ2 HLR2 HNA2 HNO2 q0 q1 q2 q3 q4 q5 ⊢
          clear hBk HBk hb2 hb2' hv1 hv2 hv3 hwp NC HQ1 HW1
          go_wp2_with fail
          obtain ⟨G2, hG2⟩ : ∃ G, wp.heap.size = G := ⟨_, rfl⟩
          obtain ⟨W2, hW2⟩ : ∃ V, wp.alloc (.cells #[.int .i64 rn, .slice Ar nr cr, .int .i64 na, .slice Aa ka ca, .int .i64 po, .slice A8 ko c8] 25) = V := ⟨_, rfl⟩
          have hb2 : Below G2 wp W2 := by rw [← hW2, ← hG2]; exact (Below.refl _ _).alloc (Nat.le_refl _) _
          have hs2 : W2.heap.size = G2 + 1 := by rw [← hW2]; simp [hG2]
          have hcl : ∀ i, W2.cell? ⟨G2, i, none⟩ = (#[Value.int .i64 rn, .slice Ar nr cr, .int .i64 na, .slice Aa ka ca, .int .i64 po, .slice A8 ko c8] : Array Value)[i]? := fun i => by rw [← hW2]; exact cell_new_at _ _ _ _ hG2.symm i
          have VC := Lib.hid (show ∀ i, i < 3 → ∃ (x : Int) (Ax : Option Addr) (nx cx : Nat) (lx : List Vm.Nm), W2.cell? ⟨G2, i * 2, none⟩ = some (.int .i64 x) ∧ W2.cell? ⟨G2, i * 2 + 1, none⟩ = some (.slice Ax nx cx) ∧ NamesIn W2 Ax nx cx lx ∧ nx ≤ 17592186044416 from fun i hi => by
            match i, hi with
            | 0, _ => exact ⟨rn, Ar, nr, cr, lr, hcl 0, hcl 1, HLR2.out.below (by rw [hG2]; exact hb2), by omega⟩
            | 1, _ => exact ⟨na, Aa, ka, ca, la, hcl 2, hcl 3, HNA2.out.below (by rw [hG2]; exact hb2), by omega⟩
            | 2, _ => exact ⟨po, A8, ko, c8, lo, hcl 4, hcl 5, HNO2.out.below (by rw [hG2]; exact hb2), by omega⟩)
          have HW2 := Lib.hid hW2
          have HQ3 := Lib.hid (HQ2.out.below (by rw [hG2]; exact hb2))
          have HB3 := Lib.hid (HB2.out.trans (hb2.mono (by omega)))
          clear hW2 hb2 hcl q0 q1 q2 q3 q4 q5 HLR2 HNA2 HNO2 HQ2
          rw [HW2.out, hG2]
          go_loopw [115] (fun i wr => ∃ k : Nat, k ≤ 3 ∧ i = .int .i64 k ∧ Below (G2 + 1) W2 wr) (fun i _ => 3 - (intOf i).toNat)
          case atStart => exact ⟨0, by omega, rfl, Below.refl _ _⟩
          case round =>
            obtain ⟨m, hm, rfl, hBm⟩ := hrel
            have zm := hBm.size
            have HBm := Lib.hid hBm
            by_cases hlm : m < 3
            · have d9 : decide ((m : Int) < 3) = true := by simp; omega
              obtain ⟨x, Ax, nx, cx, lx, hx0, hx1, hxn, hnx⟩ := VC.out m hlm
              have hcx := (hBm.cell (p := ⟨G2, m * 2, none⟩) (by show G2 < G2 + 1; omega)).trans hx0
              have hcy := (hBm.cell (p := ⟨G2, m * 2 + 1, none⟩) (by show G2 < G2 + 1; omega)).trans hx1
              have HXN := Lib.hid (hxn.below (show Below W2.heap.size W2 wr by rw [hs2]; exact hBm))
              have HQm := Lib.hid (HQ3.out.below (show Below W2.heap.size W2 wr by rw [hs2]; exact hBm))
              clear hx0 hx1 hxn hBm
              obtain ⟨r, hr⟩ : ∃ r, Vm.res x lx lq = r := ⟨_, rfl⟩
              have D1 := Lib.hid (fun V h h' => hr ▸ mres_any x Ax Aq nx nq cx cq lx lq V h h' (fun y hy => by have := HQZ.out y hy; omega) hnx hnq)
              have D2 := Lib.hid (fun V h h' => hr ▸ rres_any x Ax Aq nx nq cx cq lx lq V h h' (fun y hy => by have := HQZ.out y hy; omega) hnx hnq)
              clear hr
              obtain ⟨rs, re⟩ := r
              simp only at D1 D2
              obtain ⟨wq, hwq⟩ : ∃ wq : World, wq = wr := ⟨_, rfl⟩
              rw [← hwq] at HBm zm hcx hcy HXN HQm ⊢
              clear hwq
              obtain ⟨G3, hG3⟩ : ∃ G, wq.heap.size = G := ⟨_, rfl⟩
              obtain ⟨W3, hW3⟩ : ∃ V, wq.alloc (.cells #[.int .i64 x, .slice Ax nx cx] 25) = V := ⟨_, rfl⟩
              have hb3 : Below G3 wq W3 := by rw [← hW3, ← hG3]; exact (Below.refl _ _).alloc (Nat.le_refl _) _
              have hs3 : W3.heap.size = G3 + 1 := by rw [← hW3]; simp [hG3]
              have hv3 : VB G3 x (.slice Ax nx cx) W3 := by rw [← hW3, ← hG3]; exact heap_alloc_new _ _
              have HW3 := Lib.hid hW3
              have HV3 := Lib.hid hv3
              have HX3 := Lib.hid (HXN.out.below (by rw [hG3]; exact hb3))
              have HQ4 := Lib.hid (HQm.out.below (by rw [hG3]; exact hb3))
              have HB4 := Lib.hid (HBm.out.trans (hb3.mono (by omega)))
              clear hW3 hb3 hv3 HXN HQm
              go_wp2_with fail
              rw [HW3.out]
              refine (D1.out _ HX3.out HQ4.out).mono ?_
              rintro e' w10 ⟨rfl, hb10⟩
              have hv10 := HV3.out.below hb10 (by omega)
              have k0 := hv10.c0
              have k1 := hv10.c1
              have HV10 := Lib.hid hv10
              have HX10 := Lib.hid (HX3.out.below hb10)
              have HQ10 := Lib.hid (HQ4.out.below hb10)
              have HB10 := Lib.hid (HB4.out.trans (hb10.mono (by omega)))
              have z10 := hb10.size
              clear hv10 hb10 hcx hcy
              go_wp2_with fail
              refine (D2.out _ HX10.out HQ10.out).mono ?_
              rintro e' w12 ⟨rfl, hb12⟩
              have HB12 := Lib.hid (HB10.out.trans (hb12.mono (by omega)))
              clear hb12 k0 k1
              go_wp2_with fail
              go_roundw
              case rel => (repeat apply Exists.intro); exact ⟨⟨m + 1, by omega, by go_num, HB12.out⟩, rfl⟩
              case measure => simp [intOf]; omega
            · obtain rfl : m = 3 := by omega
              have d9 : decide (((3 : Nat) : Int) < 3) = false := by decide
              have HBe := Lib.hid (HB3.out.trans (hBm.mono (by omega)))
              obtain ⟨wq, hwq⟩ : ∃ wq : World, wq = wr := ⟨_, rfl⟩
              rw [← hwq] at HBe ⊢
              clear hwq hBm HBm
              go_wp2_with fail
              go_roundw
              case rel => exact ⟨j + 1, by omega, by go_num, HBe.out⟩
              case measure => simp [intOf]; omega
    · obtain rfl : j = 2 := by omega
      have d9 : decide (((2 : Nat) : Int) < 2) = false := by decide
      have hv1 := HVR0.out.below hBr (by omega)
      have hv2 := HVA0.out.below hBr (by omega)
      have q0 := hv1.c0
      have q1 := hv1.c1
      have q2 := hv2.c0
      have q3 := hv2.c1
      have HLR2 := Lib.hid (HLR0.out.below (by rw [hs0]; exact hBr))
      have HNA2 := Lib.hid (HNA0.out.below (by rw [hs0]; exact hBr))
      have HNB2 := Lib.hid (HNB0.out.below (by rw [hs0]; exact hBr))
      have HVB2 := Lib.hid (HVB0.out.below hBr (by omega))
      obtain ⟨wp, hwp⟩ : ∃ wp : World, wp = wr := ⟨_, rfl⟩
      rw [← hwp] at HBr zr HLR2 HNA2 HNB2 HVB2 q0 q1 q2 q3 ⊢
      clear hBr hv1 hv2 hwp QC HVR0 HVA0 HVO0 HLR0 HNA0 HNB0 HNO0 HVB0 HW0 M9
      go_wp2_with fail
      obtain ⟨G4, hG4⟩ : ∃ G, wp.heap.size = G := ⟨_, rfl⟩
      obtain ⟨W4, hW4⟩ : ∃ V, wp.alloc (.cells #[.int .i64 rn, .slice Ar nr cr, .int .i64 na, .slice Aa ka ca] 25) = V := ⟨_, rfl⟩
      have hb4 : Below G4 wp W4 := by rw [← hW4, ← hG4]; exact (Below.refl _ _).alloc (Nat.le_refl _) _
      have hs4 : W4.heap.size = G4 + 1 := by rw [← hW4]; simp [hG4]
      have hcl : ∀ i, W4.cell? ⟨G4, i, none⟩ = (#[Value.int .i64 rn, .slice Ar nr cr, .int .i64 na, .slice Aa ka ca] : Array Value)[i]? := fun i => by rw [← hW4]; exact cell_new_at _ _ _ _ hG4.symm i
      have VC := Lib.hid (show ∀ i, i < 2 → ∃ (x : Int) (Ax : Option Addr) (nx cx : Nat) (lx : List Vm.Nm), W4.cell? ⟨G4, i * 2, none⟩ = some (.int .i64 x) ∧ W4.cell? ⟨G4, i * 2 + 1, none⟩ = some (.slice Ax nx cx) ∧ NamesIn W4 Ax nx cx lx ∧ nx ≤ 400 from fun i hi => by
        match i, hi with
        | 0, _ => exact ⟨rn, Ar, nr, cr, lr, hcl 0, hcl 1, HLR2.out.below (by rw [hG4]; exact hb4), by omega⟩
        | 1, _ => exact ⟨na, Aa, ka, ca, la, hcl 2, hcl 3, HNA2.out.below (by rw [hG4]; exact hb4), by omega⟩)
      have HW4 := Lib.hid hW4
      have HNB4 := Lib.hid (HNB2.out.below (by rw [hG4]; exact hb4))
      have HVB4 := Lib.hid (HVB2.out.below hb4 (by omega))
      have HB4 := Lib.hid (HB0.out.trans ((HBr.out.trans (hb4.mono (by omega))).mono (by omega)))
      clear hW4 hb4 hcl q0 q1 q2 q3 HLR2 HNA2 HNB2 HVB2 HBr HB0
      rw [HW4.out, hG4]
      go_loopw [145] (fun i wr => ∃ k : Nat, k ≤ 2 ∧ i = .int .i64 k ∧ Below (G4 + 1) W4 wr) (fun i _ => 2 - (intOf i).toNat)
      case atStart => exact ⟨0, by omega, rfl, Below.refl _ _⟩
      case round =>
        obtain ⟨m, hm, rfl, hBm⟩ := hrel
        have zm := hBm.size
        have HBm := Lib.hid hBm
        by_cases hlm : m < 2
        · have d9 : decide ((m : Int) < 2) = true := by simp; omega
          obtain ⟨x, Ax, nx, cx, lx, hx0, hx1, hxn, hnx⟩ := VC.out m hlm
          have hcx := (hBm.cell (p := ⟨G4, m * 2, none⟩) (by show G4 < G4 + 1; omega)).trans hx0
          have hcy := (hBm.cell (p := ⟨G4, m * 2 + 1, none⟩) (by show G4 < G4 + 1; omega)).trans hx1
          have HXN := Lib.hid (hxn.below (show Below W4.heap.size W4 wr by rw [hs4]; exact hBm))
          have HNm := Lib.hid (HNB4.out.below (show Below W4.heap.size W4 wr by rw [hs4]; exact hBm))
          have HVm := Lib.hid (HVB4.out.below hBm (by omega))
          clear hx0 hx1 hxn hBm
          obtain ⟨c, hc⟩ : ∃ c, Vm.chk x lx = c := ⟨_, rfl⟩
          have C1 := Lib.hid (fun V h => hc ▸ mchk_any x Ax nx cx lx V h (by omega))
          have C2 := Lib.hid (fun V h => hc ▸ rchkV_any x Ax nx cx lx V h (by omega))
          obtain ⟨z, hz⟩ : ∃ z, Vm.siz x lx = z := ⟨_, rfl⟩
          have S1 := Lib.hid (fun V h => hz ▸ msiz_any x Ax nx cx lx V h (by omega))
          have S2 := Lib.hid (fun V h => hz ▸ rsiz_any x Ax nx cx lx V h (by omega))
          obtain ⟨g5, hg⟩ : ∃ g5, Vm.chg x lx nb lb = g5 := ⟨_, rfl⟩
          have G1 := Lib.hid (fun V h h' => hg ▸ mchg_any x nb Ax Ab nx kb cx cb lx lb V h h' (by omega) (by omega))
          have G2 := Lib.hid (fun V h h' => hg ▸ rchg_any x nb Ax Ab nx kb cx cb lx lb V h h' (by omega) (by omega))
          obtain ⟨sv, hsv⟩ : ∃ sv, decide (x = nb ∧ lx = lb) = sv := ⟨_, rfl⟩
          have V1 := Lib.hid (fun V h h' => hsv ▸ msameV_any x nb Ax Ab nx kb cx cb lx lb V h h' (by omega) (by omega))
          have V2 := Lib.hid (fun V h h' => hsv ▸ rsameV_any x nb Ax Ab nx kb cx cb lx lb V h h' (by omega) (by omega))
          have hgl := Vm.chg_len x lx nb lb
          have hlx : lx.length = nx := HXN.out.1
          have hlb : lb.length = kb := HNm.out.1
          rw [hg, hlx, hlb] at hgl
          clear hc hz hg hsv hlx hlb
          obtain ⟨z0, z1⟩ := z
          obtain ⟨P, Q, ge⟩ := g5
          simp only at S1 S2 G1 G2 hgl
          obtain ⟨wq, hwq⟩ : ∃ wq : World, wq = wr := ⟨_, rfl⟩
          rw [← hwq] at HBm zm hcx hcy HXN HNm HVm ⊢
          clear hwq
          obtain ⟨G5, hG5⟩ : ∃ G, wq.heap.size = G := ⟨_, rfl⟩
          obtain ⟨W5, hW5⟩ : ∃ V, wq.alloc (.cells #[.int .i64 x, .slice Ax nx cx] 25) = V := ⟨_, rfl⟩
          have hb5 : Below G5 wq W5 := by rw [← hW5, ← hG5]; exact (Below.refl _ _).alloc (Nat.le_refl _) _
          have hs5 : W5.heap.size = G5 + 1 := by rw [← hW5]; simp [hG5]
          have hv5 : VB G5 x (.slice Ax nx cx) W5 := by rw [← hW5, ← hG5]; exact heap_alloc_new _ _
          have HW5 := Lib.hid hW5
          have HV5 := Lib.hid hv5
          have HX5 := Lib.hid (HXN.out.below (by rw [hG5]; exact hb5))
          have HN5 := Lib.hid (HNm.out.below (by rw [hG5]; exact hb5))
          have HU5 := Lib.hid (HVm.out.below hb5 (by omega))
          have HB5 := Lib.hid (HBm.out.trans (hb5.mono (by omega)))
          clear hW5 hb5 hv5 HXN HNm HVm
          go_wp2_with fail
          rw [HW5.out]
          refine (S1.out _ HX5.out).mono ?_
          rintro e w6 ⟨rfl, hb6⟩
          have z6 := hb6.size
          have hv6 := HV5.out.below hb6 (by omega)
          have k0 := hv6.c0
          have k1 := hv6.c1
          have HV6 := Lib.hid hv6
          have HX6 := Lib.hid (HX5.out.below hb6)
          have HN6 := Lib.hid (HN5.out.below hb6)
          have HU6 := Lib.hid (HU5.out.below hb6 (by omega))
          have HB6 := Lib.hid (HB5.out.trans (hb6.mono (by omega)))
          clear hv6 hb6 hcx hcy HX5 HN5 HU5 HV5
          go_wp2_with fail
          refine (S2.out _ HX6.out).mono ?_
          rintro e w7 ⟨rfl, hb7⟩
          have z7 := hb7.size
          have hv7 := HV6.out.below hb7 (by omega)
          have hu7 := HU6.out.below hb7 (by omega)
          have HV7 := Lib.hid hv7
          have HU7 := Lib.hid hu7
          have HX7 := Lib.hid (HX6.out.below hb7)
          have HN7 := Lib.hid (HN6.out.below hb7)
          have HB7 := Lib.hid (HB6.out.trans (hb7.mono (by omega)))
          clear k0 k1
          have k0 := hv7.c0
          have k1 := hv7.c1
          have k2 := hu7.c0
          have k3 := hu7.c1
          clear hv7 hu7 hb7 HX6 HN6 HU6 HV6
          go_wp2_with fail
          refine (G1.out _ HX7.out HN7.out).mono ?_
          rintro e w8 ⟨v1, v2, rfl, ho1, ho2, hb8⟩
          obtain ⟨A1', c1', rfl, hn1'⟩ := own_names ho1
          obtain ⟨A2', c2', rfl, hn2'⟩ := own_names ho2
          have z8 := hb8.size
          have hv8 := HV7.out.below hb8 (by omega)
          have hu8 := HU7.out.below hb8 (by omega)
          have HV8 := Lib.hid hv8
          have HU8 := Lib.hid hu8
          have HX8 := Lib.hid (HX7.out.below hb8)
          have HN8 := Lib.hid (HN7.out.below hb8)
          have HP8 := Lib.hid hn1'
          have HQ8 := Lib.hid hn2'
          have HB8 := Lib.hid (HB7.out.trans (hb8.mono (by omega)))
          clear k0 k1 k2 k3
          have k0 := hv8.c0
          have k1 := hv8.c1
          have k2 := hu8.c0
          have k3 := hu8.c1
          clear ho1 ho2 hv8 hu8 hb8 hn1' hn2' HX7 HN7 HU7 HV7
          go_wp2_with fail
          refine (G2.out _ HX8.out HN8.out).mono ?_
          rintro e w9' ⟨v3, v4, rfl, ho3, ho4, hb9⟩
          obtain ⟨A3', c3', rfl, hn3'⟩ := own_names ho3
          obtain ⟨A4', c4', rfl, hn4'⟩ := own_names ho4
          have z9 := hb9.size
          have hv9 := HV8.out.below hb9 (by omega)
          have hu9 := HU8.out.below hb9 (by omega)
          have HX9 := HX8.out.below hb9
          have HN9 := HN8.out.below hb9
          have HP9 := HP8.out.below hb9
          have HQ9 := HQ8.out.below hb9
          have HB9 := Lib.hid (HB8.out.trans (hb9.mono (by omega)))
          clear k0 k1 k2 k3
          have g0 : ∀ y : Ext w9'.heap.size w9', y.1.cell? ⟨G5, 0, none⟩ = some (.int .i64 x) := fun y => (hv9.below y.2 (by omega)).c0
          have g1 : ∀ y : Ext w9'.heap.size w9', y.1.cell? ⟨G5, 1, none⟩ = some (.slice Ax nx cx) := fun y => (hv9.below y.2 (by omega)).c1
          have g2 : ∀ y : Ext w9'.heap.size w9', y.1.cell? ⟨ba + 1, 0, none⟩ = some (.int .i64 nb) := fun y => (hu9.below y.2 (by omega)).c0
          have g3 : ∀ y : Ext w9'.heap.size w9', y.1.cell? ⟨ba + 1, 1, none⟩ = some (.slice Ab kb cb) := fun y => (hu9.below y.2 (by omega)).c1
          have YX : ∀ y : Ext w9'.heap.size w9', NamesIn y.1 Ax nx cx lx := fun y => HX9.below y.2
          have YN : ∀ y : Ext w9'.heap.size w9', NamesIn y.1 Ab kb cb lb := fun y => HN9.below y.2
          have YP : ∀ y : Ext w9'.heap.size w9', NamesIn y.1 A1' P.length c1' P := fun y => HP9.below y.2
          have YQ : ∀ y : Ext w9'.heap.size w9', NamesIn y.1 A2' Q.length c2' Q := fun y => HQ9.below y.2
          have YR : ∀ y : Ext w9'.heap.size w9', NamesIn y.1 A3' P.length c3' P := fun y => hn3'.below y.2
          have YS : ∀ y : Ext w9'.heap.size w9', NamesIn y.1 A4' Q.length c4' Q := fun y => hn4'.below y.2
          have lP : P.length ≤ 17592186044416 := by omega
          have lQ : Q.length ≤ 17592186044416 := by omega
          have T1 : ∀ V, NamesIn V A1' P.length c1' P → NamesIn V A3' P.length c3' P → Calls Try.prog 27 #[.slice A1' P.length c1', .slice A3' P.length c3'] V fun e w' => e = .returned (.bool true) ∧ Below V.heap.size V w' := fun V h h' => (by
            have h := rsameN_any A1' A3' P.length P.length c1' c3' P P V h h' lP lP
            rw [decide_eq_true rfl] at h; exact h)
          have T2 : ∀ V, NamesIn V A2' Q.length c2' Q → NamesIn V A4' Q.length c4' Q → Calls Try.prog 27 #[.slice A2' Q.length c2', .slice A4' Q.length c4'] V fun e w' => e = .returned (.bool true) ∧ Below V.heap.size V w' := fun V h h' => (by
            have h := rsameN_any A2' A4' Q.length Q.length c2' c4' Q Q V h h' lQ lQ
            rw [decide_eq_true rfl] at h; exact h)
          have T1 := Lib.hid T1
          have T2 := Lib.hid T2
          clear ho3 ho4 hn3' hn4' hv9 hu9 hb9 HX8 HN8 HU8 HV8 HX9 HN9 HP9 HQ9 HP8 HQ8 S1 S2 G1 G2
          cases sv with
          | true =>
            go_wp2_with fail
            refine wp_region_below w9'.heap.size (by kernel_rfl) (by kernel_rfl) ?_
            repeat (go_big_quiet_step ((first | (go_at_call 25; with_reducible exact Calls.ext_of _ (Nat.le_refl _) (C1.out _ (YX _))) | (go_at_call 26; with_reducible exact Calls.ext_of _ (Nat.le_refl _) (C2.out _ (YX _))) | (go_at_call 27; with_reducible exact Calls.ext_of _ (Nat.le_refl _) (T1.out _ (YP _) (YR _))) | (go_at_call 27; with_reducible exact Calls.ext_of _ (Nat.le_refl _) (T2.out _ (YQ _) (YS _))) | (go_at_call 28; with_reducible exact Calls.ext_of _ (Nat.le_refl _) (V1.out _ (YX _) (YN _))) | (go_at_call 18; with_reducible exact Calls.ext_of _ (Nat.le_refl _) (V2.out _ (YX _) (YN _))))))
            refine wpQuiet_nil ?_
            intro w13 hB13
            have HB13 := Lib.hid (HB9.out.trans (hB13.mono (by omega)))
            clear hB13
            go_wp2_with fail
            go_roundw
            case rel => (repeat apply Exists.intro); exact ⟨⟨m + 1, by omega, by go_num, HB13.out⟩, rfl⟩
            case measure => simp [intOf]; omega
          | false =>
            go_wp2_with fail
            refine wp_region_below w9'.heap.size (by kernel_rfl) (by kernel_rfl) ?_
            repeat (go_big_quiet_step ((first | (go_at_call 25; with_reducible exact Calls.ext_of _ (Nat.le_refl _) (C1.out _ (YX _))) | (go_at_call 26; with_reducible exact Calls.ext_of _ (Nat.le_refl _) (C2.out _ (YX _))) | (go_at_call 27; with_reducible exact Calls.ext_of _ (Nat.le_refl _) (T1.out _ (YP _) (YR _))) | (go_at_call 27; with_reducible exact Calls.ext_of _ (Nat.le_refl _) (T2.out _ (YQ _) (YS _))) | (go_at_call 28; with_reducible exact Calls.ext_of _ (Nat.le_refl _) (V1.out _ (YX _) (YN _))) | (go_at_call 18; with_reducible exact Calls.ext_of _ (Nat.le_refl _) (V2.out _ (YX _) (YN _))))))
            refine wpQuiet_nil ?_
            intro w13 hB13
            have HB13 := Lib.hid (HB9.out.trans (hB13.mono (by omega)))
            clear hB13
            go_wp2_with fail
            go_roundw
            case rel => (repeat apply Exists.intro); exact ⟨⟨m + 1, by omega, by go_num, HB13.out⟩, rfl⟩
            case measure => simp [intOf]; omega
        · obtain rfl : m = 2 := by omega
          have d9 : decide (((2 : Nat) : Int) < 2) = false := by decide
          have HBe := Lib.hid ((HBW.out.trans ((HB4.out.trans (hBm.mono (by omega))).mono (by omega))).mono (Nat.le_of_eq HBB.out))
          clear hBm HBm
          go_wp2_with fail
          go_ret
          exact ⟨rfl, HBe.out⟩

end Go.Proofs.Ytebkgndcgcdogaa
