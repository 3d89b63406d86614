/-
  Contract of manifest: Restore.
-/
import Derived.Test.YtebkgndcgcdogaaManB
import Derived.Test.YtebkgndcgcdogaaBld
namespace Go.Proofs.Ytebkgndcgcdogaa
open Go.RowKit
set_option maxHeartbeats 4000000

theorem Bld.below {B b : Nat} {bs : List UInt8} {w w' : World} (h : Bld B b bs w) (hb : Below w.heap.size w w') : Bld B b bs w' := by
  rcases h with ⟨h0, v, h1, h2, h3⟩ | ⟨h0, v, h1, h2, h3⟩
  · exact .inl ⟨h0, v, (hb.block b (lt_of_block h1)).trans h1, own_below h2 hb, h3⟩
  · exact .inr ⟨h0, v, (hb.block b (lt_of_block h1)).trans h1, own_below h2 hb, h3⟩
theorem Vm.chk_wf {num : Int} {l : List Vm.Nm} (h : Vm.chk num l = 0) : ∀ x ∈ l, Vm.wf x := fun x hx => by
  have h := (Vm.chk_zero h).2.2.2 x hx
  unfold Vm.wf
  omega

theorem Vm.resF_nil {n : Vm.Nm} {cs : List (List UInt8)} (h : Vm.pick n cs = []) (l : List Vm.Nm) (acc : List UInt8) : Vm.resF cs (n :: l) acc = ([], 6) := by rw [Vm.resF, h]
theorem Vm.resF_same {n : Vm.Nm} {cs : List (List UInt8)} {y : List UInt8} {r : List (List UInt8)} (h : Vm.pick n cs = y :: r) (hr : ∀ z ∈ r, z = y) (l : List Vm.Nm) (acc : List UInt8) : Vm.resF cs (n :: l) acc = Vm.resF cs l (acc ++ y) := by
  rw [Vm.resF, h]
  show (if r.all (fun z => decide (z = y)) = true then _ else _) = _
  rw [if_pos (List.all_eq_true.2 (fun z hz => by simpa using hr z hz))]
theorem Vm.resF_other {n : Vm.Nm} {cs : List (List UInt8)} {y u : List UInt8} {r : List (List UInt8)} (h : Vm.pick n cs = y :: r) (hu : u ∈ r) (hne : u ≠ y) (l : List Vm.Nm) (acc : List UInt8) : Vm.resF cs (n :: l) acc = ([], 8) := by
  rw [Vm.resF, h]
  show (if r.all (fun z => decide (z = y)) = true then _ else _) = _
  rw [if_neg]
  intro ha
  exact hne (by simpa using List.all_eq_true.1 ha u hu)

set_option maxRecDepth 100000 in
theorem mres_any (num : Int) (A A' : Option Addr) (n n' c c' : Nat) (l : List Vm.Nm) (cs : List (List UInt8)) (w : World) (hl : NamesIn w A n c l) (hc : CellsIn w A' n' c' (cs.map Cm.str)) (hz : ∀ x ∈ cs, x.length ≤ 9223372036854775807) (hn : n ≤ 17592186044416) (hn' : n' ≤ 17592186044416) :
    Calls Try.prog 19 #[.agg #[.int .i64 num, .slice A n c], .slice A' n' c'] w fun e w' => e = .returned (.tuple #[.string (Cm.b (Vm.res num l cs).1), .int .i64 (Vm.res num l cs).2]) ∧ Below w.heap.size w w' := by
  have C1 := Lib.hid (fun V h => mchk_any num A n c l V h hn)
  obtain ⟨B, hB⟩ : ∃ B, w.heap.size = B := ⟨_, rfl⟩
  obtain ⟨w1, hw1⟩ : ∃ V, w.alloc (.cells #[.int .i64 num, .slice A n c] 25) = V := ⟨_, rfl⟩
  have hb1 : Below B w w1 := by rw [← hw1, ← hB]; exact (Below.refl _ _).alloc (Nat.le_refl _) _
  have hs1 : w1.heap.size = B + 1 := by rw [← hw1]; simp [hB]
  have va : VB B num (.slice A n c) w1 := by
    rw [← hw1, ← hB]
    exact heap_alloc_new _ _
  have HL := Lib.hid (hl.below (hb1.mono (by omega)))
  have HL0 := Lib.hid hl
  have HC0 := Lib.hid hc
  have HW1 := Lib.hid hw1
  have HVA := Lib.hid va
  have HB1 := Lib.hid hb1
  have HBB := Lib.hid hB
  have r0 := va.c0
  have r1 := va.c1
  have hla := hl.1
  clear hl hc hw1 va hb1
  by_cases h1 : Vm.chk num l = 0
  · have hla2 : n ≤ 256 := by rw [← hla]; exact (Vm.chk_zero h1).2.2.1
    have hsz : ∀ x ∈ l, 1 ≤ x.2 ∧ x.2 ≤ 256 := fun x hx => ⟨((Vm.chk_zero h1).2.2.2 x hx).2.2.1, ((Vm.chk_zero h1).2.2.2 x hx).2.2.2⟩
    have HWF := Lib.hid (Vm.chk_wf h1)
    have HF := Lib.hid (show Vm.res num l cs = Vm.resF cs l [] by unfold Vm.res; rw [if_pos h1])
    rw [h1] at C1
    have HSZ := Lib.hid hsz
    clear h1 hsz
    go_enter Try.func19, Try.ntmps19
    go_wp2_with fail
    rw [HW1.out]
    go_wp2_with fail
    refine (C1.out _ HL.out).mono ?_
    rintro e w2 ⟨rfl, hb2⟩
    have hv2 := HVA.out.below hb2 (by omega)
    have HV2 := Lib.hid hv2
    have hs2 := hb2.size
    have hB2 : Below B w w2 := HB1.out.trans (hb2.mono (by omega))
    have HCO := Lib.hid (contents_any A' n' c' cs w2 (HC0.out.below (hB2.mono (by rw [HBB.out]; exact Nat.le_refl _))) hz hn')
    have HB2 := Lib.hid hB2
    clear hb2 hB2 hv2 r0 r1
    go_wp2_with fail
    refine HCO.out.mono ?_
    rintro e w3 ⟨bm, rfl, hbm, hb3, hM3⟩
    have hs3 := hb3.size
    have hv3 := HV2.out.below hb3 (by omega)
    have hB3 : Below B w w3 := HB2.out.trans (hb3.mono (by omega))
    have hml := hM3.lt
    obtain ⟨b, hb⟩ : ∃ b, w3.heap.size = b := ⟨_, rfl⟩
    obtain ⟨w4, hw4⟩ : ∃ V, w3.alloc (.cells #[.pointer none, .slice none 0 0] 76) = V := ⟨_, rfl⟩
    have hbd : Bld b b [] w4 := by rw [← hw4, ← hb]; exact Lib.fresh_isBuilder _ _ w3
    have hb4 : Below b w3 w4 := by rw [← hw4]; exact (Below.refl _ _).alloc (by omega) _
    have hs4 : w4.heap.size = b + 1 := by rw [← hw4]; simp [hb]
    have hv4 := hv3.below hb4 (by omega)
    have q1 : (w3.alloc (.cells #[.pointer none, .slice none 0 0] 76)).cell? ⟨B, 1, none⟩ = some (.slice A n c) := by rw [hw4]; exact hv4.c1
    have HM3 := Lib.hid hM3
    have HB34 := Lib.hid hb4
    have HBE := Lib.hid hb
    have HB4 := Lib.hid (hB3.trans (hb4.mono (by omega)))
    have HW4 := Lib.hid hw4
    have HBD := Lib.hid hbd
    have hbB : B < b := by omega
    clear hb3 hM3 hv3 hB3 hw4 hbd hb4 hv4
    obtain ⟨R, hR⟩ : ∃ R, Vm.resF cs l [] = R := ⟨_, rfl⟩
    have HR := Lib.hid hR
    rw [hR] at HF
    clear hR
    go_wp2_with fail
    rw [HW4.out]
    go_loopw [22] (fun i wr => ∃ (k : Nat) (acc : List UInt8), k ≤ n ∧ i = .int .i64 k ∧ Bld b b acc wr ∧ Below b w4 wr ∧ b ≤ wr.heap.size ∧ Vm.resF cs (l.drop k) acc = R ∧ acc.length ≤ 256 * k) (fun i wr => n - (intOf i).toNat)
    case atStart => exact ⟨0, [], by omega, rfl, HBD.out, Below.refl _ _, by omega, HR.out, by simp⟩
    case round =>
      obtain ⟨k, acc, hk, rfl, hbd, hBr, hbr, hrf, hal⟩ := hrel
      have HBr := Lib.hid hBr
      have HBDr := Lib.hid hbd
      have HBw := Lib.hid (show Below B w wr from HB4.out.trans (hBr.mono (by omega)))
      have HMr := Lib.hid (HM3.out.below ((HB34.out.trans hBr).mono (by rw [HBE.out]; exact Nat.le_refl _)))
      clear hBr hbd
      by_cases hlt : k < n
      · have d8 : decide ((k : Int) < (n : Int)) = true := by simp; omega
        obtain ⟨g, q, rfl, hg, hz', y0, y1⟩ := HL0.out.at hlt
        have z0 := (HBw.out.cell (p := ⟨g, q + k * 2, none⟩) (by rw [← HBB.out]; exact hg)).trans y0
        have z1 := (HBw.out.cell (p := ⟨g, q + k * 2 + 1, none⟩) (by rw [← HBB.out]; exact hg)).trans y1
        obtain ⟨x, hx⟩ : ∃ x, l[k] = x := ⟨_, rfl⟩
        have hxs := HSZ.out _ (List.getElem_mem hz')
        have hxw := HWF.out _ (List.getElem_mem hz')
        rw [List.drop_eq_getElem_cons hz', hx] at hrf
        rw [hx] at z0 z1 hxs hxw
        obtain ⟨v, hlk, hov⟩ := (HMr.out.below ((Below.refl _ _).alloc (Nat.le_refl _) (.cells #[.int .i64 x.1, .int .i64 x.2] 59))).look hxw
        obtain ⟨T, hT⟩ : ∃ T, Vm.duo (Vm.pick x cs) = T := ⟨_, rfl⟩
        rw [hT] at hov
        obtain ⟨A1, c1, rfl, hci⟩ := own_cells hov
        have hsp := Vm.duo_spec (Vm.pick x cs)
        rw [hT] at hsp
        have HSP := Lib.hid hsp
        have HPM := Lib.hid (Vm.pick_mem x cs)
        have HCI := Lib.hid hci
        have HRF := Lib.hid hrf
        have HBa := Lib.hid (show Below b w4 (wr.alloc (.cells #[.int .i64 x.1, .int .i64 x.2] 59)) from HBr.out.alloc hbr _)
        have HBDa := Lib.hid (HBDr.out.below ((Below.refl _ _).alloc (Nat.le_refl _) (.cells #[.int .i64 x.1, .int .i64 x.2] 59)))
        have HXS := Lib.hid hxs
        clear hrf hci hov hsp hx hz' y0 y1 hg hxw hxs
        obtain ⟨x0, x1⟩ := x
        simp only at z0 z1 hlk
        have hlk : (Instr.lookup 72 (.map (some bm)) (.agg #[.int .i64 x0, .int .i64 x1]) false).run Try.prog (wr.alloc (.cells #[.int .i64 x0, .int .i64 x1] 59)) = .ok (.slice A1 T.length c1) (wr.alloc (.cells #[.int .i64 x0, .int .i64 x1] 59)) := hlk
        rcases HSP.out with ⟨hP, hTe⟩ | ⟨y, r, hP, hall, hTe⟩ | ⟨y, r, hP, ⟨u, hu, hne⟩, hT2⟩
        · have HRX := Lib.hid (show R = ([], 6) by rw [← HRF.out]; exact Vm.resF_nil hP _ _)
          subst hTe
          simp only [List.length_nil] at hlk
          clear hP hT
          go_wp2_with fail
          go_ret2
          exact ⟨by rw [HF.out, HRX.out]; rfl, HB4.out.trans (HBa.out.mono (show B ≤ b by omega))⟩
        · have HRX := Lib.hid (show Vm.resF cs (l.drop (k + 1)) (acc ++ y) = R by rw [← HRF.out]; exact (Vm.resF_same hP hall _ _).symm)
          subst hTe
          have hyl : y.length ≤ 256 := by
            have h := ((HPM.out y).1 (by rw [hP]; exact List.mem_cons_self ..)).2
            have h := congrArg Prod.snd h
            simp only [Vm.nm] at h
            have := HXS.out
            simp only at this
            omega
          simp only [List.length_cons, List.length_nil, Nat.zero_add] at hlk
          obtain ⟨g1, o1, rfl, hg1, _, yc⟩ := HCI.out.at (i := 0) (by simp)
          have yc : (wr.alloc (.cells #[.int .i64 x0, .int .i64 x1] 59)).cell? ⟨g1, o1, none⟩ = some (.string (Cm.b y)) := yc
          obtain ⟨Y, hY⟩ : ∃ Y, Cm.b y = Y := ⟨_, rfl⟩
          have hYl : Y.data.toList = y := by rw [← hY, Cm.b_list]
          have hYs : Y.size = y.length := by rw [← hYl]; simp
          rw [hY] at yc
          have hwr := bldWrite_any b b acc Y (wr.alloc (.cells #[.int .i64 x0, .int .i64 x1] 59)) HBDa.out (by omega) (by simp; omega)
          rw [hYl] at hwr
          have HWR := Lib.hid hwr
          clear hwr hY hYl hall hP hT
          go_wp2_with (first | (go_at_call 45; refine HWR.out.mono ?_; rintro e w5 ⟨rfl, hbd5, hb5⟩) | fail)
          have HBD5 := Lib.hid hbd5
          have HB5 := Lib.hid (HBa.out.trans hb5)
          have hs5 : b ≤ w5.heap.size := by have := hb5.size; simp at this; omega
          clear hbd5 hb5
          go_wp2_with fail
          go_roundw
          case rel => exact ⟨k + 1, acc ++ y, by omega, by go_num, HBD5.out, HB5.out, hs5, HRX.out, by rw [List.length_append]; omega⟩
          case measure => simp [intOf]; omega
        · have HRX := Lib.hid (show R = ([], 8) by rw [← HRF.out]; exact Vm.resF_other hP hu hne _ _)
          rw [hT2] at hlk
          clear hu hne hP hT
          go_wp2_with fail
          go_ret2
          exact ⟨by rw [HF.out, HRX.out]; rfl, HB4.out.trans (HBa.out.mono (show B ≤ b by omega))⟩
      · obtain rfl : k = n := by omega
        have d8 : decide ((k : Int) < (k : Int)) = false := by simp
        rw [List.drop_of_length_le (by rw [hla]; exact Nat.le_refl _)] at hrf
        have HRF := Lib.hid (show R = (acc, 0) from hrf.symm)
        have HST := Lib.hid (bldString_any b b acc wr HBDr.out hbr)
        clear hrf
        go_wp2_with (first | (go_at_call 46; refine HST.out.mono ?_; rintro e w5 ⟨rfl, hb5⟩) | fail)
        have HB5 := Lib.hid (show Below B w w5 from HBw.out.trans (hb5.mono (by omega)))
        clear hb5
        go_wp2_with fail
        go_ret2
        exact ⟨by rw [HF.out, HRF.out]; rfl, HB5.out.mono (by rw [HBB.out]; exact Nat.le_refl _)⟩
  · have HF := Lib.hid (show Vm.res num l cs = ([], Vm.chk num l) by unfold Vm.res; rw [if_neg h1])
    have g0 : (Vm.chk num l == 0) = false := beq_eq_false_iff_ne.2 h1
    have g1 : (Vm.chk num l != 0) = true := by simpa using h1
    obtain ⟨x, hx⟩ : ∃ x, Vm.chk num l = x := ⟨_, rfl⟩
    rw [hx] at C1 HF g0 g1
    clear h1 hx hla
    go_enter Try.func19, Try.ntmps19
    go_wp2_with fail
    rw [HW1.out]
    go_wp2_with fail
    refine (C1.out _ HL.out).mono ?_
    rintro e w2 ⟨rfl, hb2⟩
    have HB2 := Lib.hid (HB1.out.trans (hb2.mono (by omega)))
    clear hb2
    go_wp2_with fail
    go_ret2
    exact ⟨by rw [HF.out]; rfl, HB2.out.mono (by rw [HBB.out]; exact Nat.le_refl _)⟩

end Go.Proofs.Ytebkgndcgcdogaa
