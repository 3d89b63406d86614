/-
  Contracts of the reference of manifest: Change, Restore.
-/
import Derived.Test.YtebkgndcgcdogaaVe
import Derived.Deep.RegionHeld3
namespace Go.Proofs.Ytebkgndcgcdogaa
open Go.RowKit
set_option maxHeartbeats 2000000

theorem Cm.b_size (x : List UInt8) : (Cm.b x).size = x.length := by show Array.size _ = _; simp

/-- two lists of names and an error, as an answer -/
def Vm.RetC (B : Nat) (w : World) (r : List Vm.Nm × List Vm.Nm × Int) (e : Ending) (w' : World) : Prop :=
  ∃ u v, e = .returned (.tuple #[u, v, .int .i64 r.2.2]) ∧ NamesOwn w' B u r.1 ∧ NamesOwn w' B v r.2.1 ∧ Below B w w'

set_option maxRecDepth 100000 in
theorem rchg_any (na nb : Int) (A A' : Option Addr) (n n' c c' : Nat) (a b : List Vm.Nm) (w : World) (ha : NamesIn w A n c a) (hb : NamesIn w A' n' c' b) (hn : n ≤ 17592186044416) (hn' : n' ≤ 17592186044416) :
    Calls Try.prog 24 #[.agg #[.int .i64 na, .slice A n c], .agg #[.int .i64 nb, .slice A' n' c']] w (Vm.RetC w.heap.size w (Vm.chg na a nb b)) := by
  have C1 := Lib.hid (fun V h => rchkV_any na A n c a V h hn)
  have C2 := Lib.hid (fun V h => rchkV_any nb A' n' c' b V h hn')
  obtain ⟨B, hB⟩ : ∃ B, w.heap.size = B := ⟨_, rfl⟩
  obtain ⟨w1, hw1⟩ : ∃ V, (w.alloc (.cells #[.int .i64 na, .slice A n c] 25)).alloc (.cells #[.int .i64 nb, .slice A' n' c'] 25) = V := ⟨_, rfl⟩
  have hb1 : Below B w w1 := by rw [← hw1, ← hB]; exact ((Below.refl _ _).alloc (Nat.le_refl _) _).alloc (by simp) _
  have hs1 : w1.heap.size = B + 2 := by rw [← hw1]; simp [hB]
  have va : VB B na (.slice A n c) w1 := by
    rw [← hw1, ← hB]
    exact (Below.heap_alloc _ _ _ (by simp)).trans (heap_alloc_new _ _)
  have vb : VB (B + 1) nb (.slice A' n' c') w1 := by
    rw [← hw1, ← hB]
    have := heap_alloc_new (w.alloc (.cells #[.int .i64 na, .slice A n c] 25)) (.cells #[.int .i64 nb, .slice A' n' c'] 25)
    rw [World.size_alloc] at this
    exact this
  have HA := Lib.hid (ha.below (hb1.mono (by omega)))
  have HB := Lib.hid (hb.below (hb1.mono (by omega)))
  have HW1 := Lib.hid hw1
  have HVA := Lib.hid va
  have HVB := Lib.hid vb
  have HB1 := Lib.hid hb1
  have HBB := Lib.hid hB
  have hla := ha.1
  have hlb := hb.1
  clear ha hb hw1 va vb hb1
  by_cases h1 : Vm.chk na a = 0
  · by_cases h2 : Vm.chk nb b = 0
    · have HF := Lib.hid (show Vm.chg na a nb b = (Vm.wo b a, Vm.wo a b, 0) by unfold Vm.chg; rw [if_pos h1, if_pos h2])
      have hla2 : n ≤ 256 := by rw [← hla]; exact (Vm.chk_zero h1).2.2.1
      have hlb2 : n' ≤ 256 := by rw [← hlb]; exact (Vm.chk_zero h2).2.2.1
      rw [h1] at C1
      rw [h2] at C2
      have W1 := Lib.hid (fun V h h' => rwithout_any A' A n' n c' c b a V h h' hlb2 hla2)
      have W2 := Lib.hid (fun V h h' => rwithout_any A A' n n' c c' a b V h h' hla2 hlb2)
      clear h1 h2 hla hlb
      go_enter Try.func24, Try.ntmps24
      go_wp2_with fail
      rw [HW1.out]
      refine (C1.out _ HA.out).mono ?_
      rintro e w2 ⟨rfl, hb2⟩
      have HA2 := Lib.hid (HA.out.below hb2)
      have HX2 := Lib.hid (HB.out.below hb2)
      have HVA2 := Lib.hid (HVA.out.below hb2 (by omega))
      have HVB2 := Lib.hid (HVB.out.below hb2 (by omega))
      have hs2 := hb2.size
      have HB2 := Lib.hid (HB1.out.trans (hb2.mono (by omega)))
      clear hb2
      have q0 := HVB2.out.c0
      have q1 := HVB2.out.c1
      go_wp2_with fail
      refine (C2.out _ HX2.out).mono ?_
      rintro e w3 ⟨rfl, hb3⟩
      have HA3 := Lib.hid (HA2.out.below hb3)
      have HX3 := Lib.hid (HX2.out.below hb3)
      have HVA3 := Lib.hid (HVA2.out.below hb3 (by omega))
      have HVB3 := Lib.hid (HVB2.out.below hb3 (by omega))
      have hs3 := hb3.size
      have HB3 := Lib.hid (HB2.out.trans (hb3.mono (by omega)))
      clear hb3 q0 q1
      have q0 := HVA3.out.c1
      have q1 := HVB3.out.c1
      have p0 : w3.drew.cell? ⟨B, 1, none⟩ = some (.slice A n c) := q0
      have p1 : w3.drew.cell? ⟨B + 1, 1, none⟩ = some (.slice A' n' c') := q1
      have ha3 : NamesIn w3.drew A n c a := HA3.out
      have hx3 : NamesIn w3.drew A' n' c' b := HX3.out
      have hva3 : VB B na (.slice A n c) w3.drew := HVA3.out
      have hvb3 : VB (B + 1) nb (.slice A' n' c') w3.drew := HVB3.out
      have hsd : B + 1 < w3.drew.heap.size := by show B + 1 < w3.heap.size; omega
      go_wp2_with fail
      go_region_held3 (fun V => V.cell? ⟨B, 1, none⟩ = some (.slice A n c) ∧ V.cell? ⟨B + 1, 1, none⟩ = some (.slice A' n' c')) (first | exact ⟨by assumption, by assumption⟩) ((first | (go_at_call 50; (with_reducible refine (W1.out _ hx3 ha3).mono ?_); rintro e w4 ⟨v1, rfl, ho1, hb4⟩; have ha4 := NamesIn.below ha3 hb4; have hx4 := NamesIn.below hx3 hb4; have hva4 := VB.below hva3 hb4 (Nat.lt_of_succ_lt hsd); have hvb4 := VB.below hvb3 hb4 hsd; have r0 := hva4.c1; have r1 := hvb4.c1; have hsd4 := Nat.lt_of_lt_of_le hsd hb4.size) | (go_at_call 50; (with_reducible refine (W2.out _ ha4 hx4).mono ?_); rintro e w5 ⟨v2, rfl, ho2, hb5⟩; have s0 := (VB.below hva4 hb5 (Nat.lt_of_succ_lt hsd4)).c1; have s1 := (VB.below hvb4 hb5 hsd4).c1) | fail))
      have HO1 := Lib.hid (NamesOwn.mono (NamesOwn.below ho1 hb5) (show w.heap.size ≤ w3.drew.heap.size by show w.heap.size ≤ w3.heap.size; rw [HBB.out]; omega))
      have HO2 := Lib.hid (NamesOwn.mono ho2 (show w.heap.size ≤ w4.heap.size from Nat.le_trans (show w.heap.size ≤ w3.drew.heap.size by show w.heap.size ≤ w3.heap.size; rw [HBB.out]; omega) hb4.size))
      have HB5 := Lib.hid (show Below w.heap.size w w5 from ((HB3.out.drew.mono (by rw [HBB.out]; exact Nat.le_refl _)).trans (hb4.mono (by show w.heap.size ≤ w3.heap.size; rw [HBB.out]; omega))).trans (hb5.mono (Nat.le_trans (show w.heap.size ≤ w3.drew.heap.size by show w.heap.size ≤ w3.heap.size; rw [HBB.out]; omega) hb4.size)))
      clear ho1 ho2 hb4 hb5
      go_wp2_with fail
      go_ret3
      exact ⟨v1, v2, by rw [HF.out]; rfl, by rw [HF.out]; exact HO1.out, by rw [HF.out]; exact HO2.out, HB5.out⟩
    · have HF := Lib.hid (show Vm.chg na a nb b = ([], [], Vm.chk nb b) by unfold Vm.chg; rw [if_pos h1, if_neg h2])
      have g0 : (Vm.chk nb b == 0) = false := beq_eq_false_iff_ne.2 h2
      obtain ⟨x, hx⟩ : ∃ x, Vm.chk nb b = x := ⟨_, rfl⟩
      rw [h1] at C1
      rw [hx] at C2 HF g0
      clear h1 h2 hx hla hlb
      go_enter Try.func24, Try.ntmps24
      go_wp2_with fail
      rw [HW1.out]
      refine (C1.out _ HA.out).mono ?_
      rintro e w2 ⟨rfl, hb2⟩
      have HX2 := Lib.hid (HB.out.below hb2)
      have HVB2 := Lib.hid (HVB.out.below hb2 (by omega))
      have hs2 := hb2.size
      have HB2 := Lib.hid (HB1.out.trans (hb2.mono (by omega)))
      clear hb2
      have q0 := HVB2.out.c0
      have q1 := HVB2.out.c1
      go_wp2_with fail
      refine (C2.out _ HX2.out).mono ?_
      rintro e w3 ⟨rfl, hb3⟩
      have HB3 := Lib.hid (HB2.out.trans (hb3.mono (by omega)))
      clear hb3 q0 q1
      go_wp2_with fail
      go_ret3
      exact ⟨_, _, by rw [HF.out]; rfl, by rw [HF.out]; exact NamesOwn.nil _ _, by rw [HF.out]; exact NamesOwn.nil _ _, HB3.out.mono (by rw [HBB.out]; exact Nat.le_refl _)⟩
  · have HF := Lib.hid (show Vm.chg na a nb b = ([], [], Vm.chk na a) by unfold Vm.chg; rw [if_neg h1])
    have g0 : (Vm.chk na a == 0) = false := beq_eq_false_iff_ne.2 h1
    obtain ⟨x, hx⟩ : ∃ x, Vm.chk na a = x := ⟨_, rfl⟩
    rw [hx] at C1 HF g0
    clear h1 hx hla hlb
    go_enter Try.func24, Try.ntmps24
    go_wp2_with fail
    rw [HW1.out]
    refine (C1.out _ HA.out).mono ?_
    rintro e w2 ⟨rfl, hb2⟩
    have HB2 := Lib.hid (HB1.out.trans (hb2.mono (by omega)))
    clear hb2
    go_wp2_with fail
    go_ret3
    exact ⟨_, _, by rw [HF.out]; rfl, by rw [HF.out]; exact NamesOwn.nil _ _, by rw [HF.out]; exact NamesOwn.nil _ _, HB2.out.mono (by rw [HBB.out]; exact Nat.le_refl _)⟩

set_option maxRecDepth 100000 in
theorem rres_any (num : Int) (A A' : Option Addr) (n n' c c' : Nat) (l : List Vm.Nm) (cs : List (List UInt8)) (w : World) (hl : NamesIn w A n c l) (hc : CellsIn w A' n' c' (cs.map Cm.str)) (hz : ∀ x ∈ cs, x.length ≤ 9223372036854775807) (hn : n ≤ 17592186044416) (hn' : n' ≤ 17592186044416) :
    Calls Try.prog 20 #[.agg #[.int .i64 num, .slice A n c], .slice A' n' c'] w fun e w' => e = .returned (.tuple #[.string (Cm.b (Vm.res num l cs).1), .int .i64 (Vm.res num l cs).2]) ∧ Below w.heap.size w w' := by
  have C1 := Lib.hid (fun V h => rchkV_any num A n c l V h hn)
  obtain ⟨B, hB⟩ : ∃ B, w.heap.size = B := ⟨_, rfl⟩
  obtain ⟨w1, hw1⟩ : ∃ V, w.alloc (.cells #[.int .i64 num, .slice A n c] 25) = V := ⟨_, rfl⟩
  have hb1 : Below B w w1 := by rw [← hw1, ← hB]; exact (Below.refl _ _).alloc (Nat.le_refl _) _
  have hs1 : w1.heap.size = B + 1 := by rw [← hw1]; simp [hB]
  have va : VB B num (.slice A n c) w1 := by
    rw [← hw1, ← hB]
    exact heap_alloc_new _ _
  have HL := Lib.hid (hl.below (hb1.mono (by omega)))
  have HL0 := Lib.hid hl
  have HC0 := Lib.hid hc
  have HW1 := Lib.hid hw1
  have HVA := Lib.hid va
  have HB1 := Lib.hid hb1
  have HBB := Lib.hid hB
  have hla := hl.1
  clear hl hc hw1 va hb1
  by_cases h1 : Vm.chk num l = 0
  · have hla2 : n ≤ 256 := by rw [← hla]; exact (Vm.chk_zero h1).2.2.1
    have hsz : ∀ x ∈ l, 1 ≤ x.2 ∧ x.2 ≤ 256 := fun x hx => ⟨((Vm.chk_zero h1).2.2.2 x hx).2.2.1, ((Vm.chk_zero h1).2.2.2 x hx).2.2.2⟩
    have HF := Lib.hid (show Vm.res num l cs = Vm.resF cs l [] by unfold Vm.res; rw [if_pos h1])
    rw [h1] at C1
    have HSZ := Lib.hid hsz
    clear h1 hsz
    go_enter Try.func20, Try.ntmps20
    go_wp2_with fail
    rw [HW1.out]
    refine (C1.out _ HL.out).mono ?_
    rintro e w2 ⟨rfl, hb2⟩
    have hv2 := HVA.out.below hb2 (by omega)
    have q0 := hv2.c0
    have q1 := hv2.c1
    have hs2 := hb2.size
    have HB2 := Lib.hid (HB1.out.trans (hb2.mono (by omega)))
    clear hb2 hv2
    go_wp2_with fail
    obtain ⟨R, hR⟩ : ∃ R, Vm.resF cs l [] = R := ⟨_, rfl⟩
    have HR := Lib.hid hR
    have hcl : cs.length = n' := by have := HC0.out.1; simpa using this
    have HCL := Lib.hid hcl
    rw [hR] at HF
    clear hR hcl
    go_loopw [7, 22] (fun s i wr => ∃ (k : Nat) (acc : List UInt8), k ≤ n ∧ i = .int .i64 k ∧ s = .string (Cm.b acc) ∧ Below B w wr ∧ Vm.resF cs (l.drop k) acc = R ∧ acc.length ≤ 256 * k) (fun s i wr => n - (intOf i).toNat)
    case atStart => exact ⟨0, [], by omega, rfl, rfl, HB2.out, HR.out, by simp⟩
    case round =>
      obtain ⟨k, acc, hk, rfl, rfl, hBr, hrf, hal⟩ := hrel
      have hsz := hBr.size
      rw [HBB.out] at hsz
      by_cases hlt : k < n
      · have d8 : decide ((k : Int) < (n : Int)) = true := by simp; omega
        obtain ⟨g, q, rfl, hg, hz', y0, y1⟩ := HL0.out.at hlt
        have z0 := (hBr.cell (p := ⟨g, q + k * 2, none⟩) (by rw [← HBB.out]; exact hg)).trans y0
        have z1 := (hBr.cell (p := ⟨g, q + k * 2 + 1, none⟩) (by rw [← HBB.out]; exact hg)).trans y1
        obtain ⟨x, hx⟩ : ∃ x, l[k] = x := ⟨_, rfl⟩
        have hxs := HSZ.out _ (List.getElem_mem hz')
        rw [List.drop_eq_getElem_cons hz', hx] at hrf
        rw [hx] at z0 z1 hxs
        obtain ⟨x0, x1⟩ := x
        simp only at z0 z1 hxs
        obtain ⟨nb, hnbe⟩ : ∃ nb, wr.heap.size = nb := ⟨_, rfl⟩
        obtain ⟨wa, hwa⟩ : ∃ V, wr.alloc (.cells #[Value.int .i64 x0, .int .i64 x1] 59) = V := ⟨_, rfl⟩
        have hnb : wa.heap[nb]? = some (.cells #[Value.int .i64 x0, .int .i64 x1] 59 (0, 0)) := by rw [← hwa, ← hnbe]; exact heap_alloc_new _ _
        have hsa : wa.heap.size = nb + 1 := by rw [← hwa]; simp [hnbe]
        have hBa : Below B w wa := by rw [← hwa]; exact hBr.alloc hsz _
        have HWA := Lib.hid hwa
        have HNB := Lib.hid hnb
        have HBA := Lib.hid hBa
        have HRF := Lib.hid hrf
        rw [hnbe] at hsz
        clear y0 y1 hz' hx hwa hnb hBa hrf hBr hg
        go_wp2_with fail
        rw [HWA.out]
        go_loopw [10, 11, 28] (fun f t i wq => ∃ (j : Nat) (fd : Bool) (tx : List UInt8), j ≤ n' ∧ i = .int .i64 j ∧ f = .bool fd ∧ t = .string (Cm.b tx) ∧ Below (nb + 1) wa wq ∧ Vm.Got (x0, x1) (cs.take j) fd tx) (fun f t i wq => n' - (intOf i).toNat)
        case atStart => exact ⟨0, false, [], by omega, rfl, rfl, rfl, Below.refl _ _, Vm.Got.nil _⟩
        case round =>
          obtain ⟨j, fd, tx, hj, rfl, rfl, rfl, hBq, hgot⟩ := hrel
          have hsq := hBq.size
          by_cases hlj : j < n'
          · have d9 : decide ((j : Int) < (n' : Int)) = true := by simp; omega
            obtain ⟨g2, q2, rfl, hg2, hz2, y0⟩ := HC0.out.at hlj
            rw [List.getElem_map] at y0
            have hjc : j < cs.length := by rw [HCL.out]; exact hlj
            obtain ⟨c, hcE⟩ : ∃ c, Cm.b cs[j] = c := ⟨_, rfl⟩
            unfold Cm.str at y0
            rw [hcE] at y0
            rw [HBB.out] at hg2
            have hBwq : Below B w wr := HBA.out.trans (hBq.mono (by omega))
            have z2 := (hBwq.cell (p := ⟨g2, q2 + j, none⟩) hg2).trans y0
            have hcl : c.data.toList = cs[j] := by rw [← hcE, Cm.b_list]
            have hcs : c.size = cs[j].length := by rw [← hcl]; simp
            have hcm : c.size ≤ 9223372036854775807 := by rw [hcs]; exact hz _ (List.getElem_mem hjc)
            have hnbq : wr.heap[nb]? = some (.cells #[Value.int .i64 x0, .int .i64 x1] 59 (0, 0)) := (hBq.block nb (by omega)).trans HNB.out
            have n0 : wr.cell? ⟨nb, 0, none⟩ = some (.int .i64 x0) := by simp [World.cell?, hnbq]
            have n1 : wr.cell? ⟨nb, 1, none⟩ = some (.int .i64 x1) := by simp [World.cell?, hnbq]
            have hnbl : nb < wr.heap.size := by omega
            have HBQ := Lib.hid hBq
            have HGOT := Lib.hid hgot
            have HNBQ := Lib.hid hnbq
            have HCD := Lib.hid hcl
            have HCS := Lib.hid hcs
            clear hBq hgot hnbq hcE y0 hz2 hcl hcs hBwq hg2
            by_cases c1 : (c.size : Int) = x1
            · have b1 : ((c.size : Int) != x1) = false := by simp [c1]
              have b2 : ((c.size : Int) == x1) = true := by simp [c1]
              obtain ⟨D, hD⟩ : ∃ D, Dm.sum cs[j] = D := ⟨_, rfl⟩
              have hnm : Vm.nm cs[j] = (D, (c.size : Int)) := by unfold Vm.nm; rw [hD, HCS.out]
              have HNM := Lib.hid hnm
              have HN := Lib.hid (fun V => (by
                have h := rname_any c V (by unfold maxLen; omega)
                rw [HCD.out, HNM.out] at h
                exact h : Calls Try.prog 40 #[.string c] V fun e w' => e = .returned (.agg #[.int .i64 D, .int .i64 (c.size : Int)]) ∧ Below V.heap.size V w'))
              have fc : ∀ y : Ext wr.heap.size wr, y.1.cell? ⟨nb, 0, none⟩ = some (.int .i64 x0) ∧ y.1.cell? ⟨nb, 1, none⟩ = some (.int .i64 x1) := fun y => ⟨(y.2.cell (p := ⟨nb, 0, none⟩) hnbl).trans n0, (y.2.cell (p := ⟨nb, 1, none⟩) hnbl).trans n1⟩
              have g0 := fun y => (fc y).1
              have g1 := fun y => (fc y).2
              clear hD hnm fc
              by_cases c2 : (D, (c.size : Int)) = (x0, x1)
              · obtain ⟨rfl, rfl⟩ : D = x0 ∧ (c.size : Int) = x1 := by injection c2 with h1 h2; exact ⟨h1, h2⟩
                have hnmx : Vm.nm cs[j] = (D, (c.size : Int)) := HNM.out
                have HNX := Lib.hid hnmx
                clear c2 c1 hnmx n0 n1
                go_wp2_with fail
                refine wp_region_below wr.heap.size (by kernel_rfl) (by kernel_rfl) ?_
                repeat (go_big_quiet_step ((go_at_call 40; exact Calls.ext_of _ (Nat.le_refl _) (HN.out _))))
                refine wpQuiet_nil ?_
                intro w5 hB5
                have HB5 := Lib.hid (HBQ.out.trans (hB5.mono (by omega)))
                clear g0 g1 hB5
                cases fd with
                | false =>
                  go_wp2_with fail
                  go_roundw
                  case rel => exact ⟨j + 1, true, cs[j], by omega, by go_num, rfl, by rw [← Cm.b_eq HCD.out], HB5.out, HGOT.out.first hjc HNX.out⟩
                  case measure => simp [intOf]; omega
                | true =>
                  by_cases c3 : cs[j] = tx
                  · have c4 : c = Cm.b tx := Cm.b_eq (by rw [HCD.out, c3])
                    subst c4
                    go_wp2_with fail
                    go_roundw
                    case rel => exact ⟨j + 1, true, cs[j], by omega, by go_num, rfl, by rw [← Cm.b_eq HCD.out], HB5.out, HGOT.out.again hjc HNX.out c3⟩
                    case measure => simp [intOf]; omega
                  · have c4 : (c.toList == (Cm.b tx).toList) = false := str_ne (fun e => c3 (by rw [← HCD.out, e, Cm.b_list]))
                    have c5 : (c.toList != (Cm.b tx).toList) = true := by simp [bne, c4]
                    have HRX := Lib.hid (show R = ([], 8) by rw [← HRF.out]; exact HGOT.out.clash hjc HNX.out c3 _ _)
                    go_wp2_with fail
                    go_ret2
                    exact ⟨by rw [HF.out, HRX.out]; rfl, (HBA.out.trans (HB5.out.mono (by omega))).mono (by rw [HBB.out]; exact Nat.le_refl _)⟩
              · have hq := name_ne c2
                have HNX := Lib.hid (show Vm.nm cs[j] ≠ (x0, x1) by rw [HNM.out]; exact c2)
                clear c2 c1 n0 n1
                go_wp2_with fail
                refine wp_region_below wr.heap.size (by kernel_rfl) (by kernel_rfl) ?_
                repeat (go_big_quiet_step ((go_at_call 40; exact Calls.ext_of _ (Nat.le_refl _) (HN.out _))))
                refine wpQuiet_nil ?_
                intro w5 hB5
                have HB5 := Lib.hid (HBQ.out.trans (hB5.mono (by omega)))
                clear g0 g1 hB5
                go_wp2_with fail
                go_roundw
                case rel => exact ⟨j + 1, fd, tx, by omega, by go_num, rfl, rfl, HB5.out, HGOT.out.skip hjc HNX.out⟩
                case measure => simp [intOf]; omega
            · have b1 : ((c.size : Int) != x1) = true := by simp [c1]
              have b2 : ((c.size : Int) == x1) = false := beq_eq_false_iff_ne.2 c1
              have HNX := Lib.hid (show Vm.nm cs[j] ≠ (x0, x1) from fun e => c1 (by rw [HCS.out]; exact congrArg Prod.snd e))
              clear c1
              go_wp2_with fail
              go_quiet (fail)
              go_wp2_with fail
              go_roundw
              case rel => exact ⟨j + 1, fd, tx, by omega, by go_num, rfl, rfl, Below.drewN' HBQ.out _, HGOT.out.skip hjc HNX.out⟩
              case measure => simp [intOf]; omega
          · obtain rfl : j = n' := by omega
            have d9 : decide ((j : Int) < (j : Int)) = false := by simp
            rw [List.take_of_length_le (by rw [HCL.out]; exact Nat.le_refl _)] at hgot
            have hBwq : Below B w wr := HBA.out.trans (hBq.mono (by omega))
            have HBW := Lib.hid hBwq
            clear hBq hBwq
            cases fd with
            | false =>
              have HRX := Lib.hid (show R = ([], 6) by rw [← HRF.out]; exact hgot.none _ _)
              clear hgot
              go_wp2_with fail
              go_ret2
              exact ⟨by rw [HF.out, HRX.out]; rfl, HBW.out.mono (by rw [HBB.out]; exact Nat.le_refl _)⟩
            | true =>
              obtain ⟨e1, e2⟩ := hgot.done (l.drop (k + 1)) acc
              have htl : tx.length ≤ 256 := by have := congrArg Prod.snd e2; simp only [Vm.nm] at this; omega
              have HRX := Lib.hid (show Vm.resF cs (l.drop (k + 1)) (acc ++ tx) = R by rw [← e1]; exact HRF.out)
              have ha1 : ∀ V : World, (Op.stringOp .add (Cm.b acc) (Cm.b tx)).run Try.prog V = .ok (.string (Cm.b (acc ++ tx))) V := fun V => by
                have h1 : Cm.b (acc ++ tx) = Cm.b acc ++ Cm.b tx := by apply bytes_ext; simp [Cm.b]
                rw [h1]
                exact run_string_add_sum V _ _ (by rw [Cm.b_size, Cm.b_size]; omega)
              clear hgot e1 e2
              go_wp2_with fail
              go_roundw
              case rel => exact ⟨k + 1, acc ++ tx, by omega, by go_num, rfl, HBW.out, HRX.out, by rw [List.length_append]; omega⟩
              case measure => simp [intOf]; omega
      · obtain rfl : k = n := by omega
        have d8 : decide ((k : Int) < (k : Int)) = false := by simp
        rw [List.drop_of_length_le (by rw [hla]; exact Nat.le_refl _)] at hrf
        have HRF := Lib.hid (show R = (acc, 0) from hrf.symm)
        clear hrf
        go_wp2_with fail
        go_ret2
        exact ⟨by rw [HF.out, HRF.out]; rfl, hBr.mono (by rw [HBB.out]; exact Nat.le_refl _)⟩
  · have HF := Lib.hid (show Vm.res num l cs = ([], Vm.chk num l) by unfold Vm.res; rw [if_neg h1])
    have g0 : (Vm.chk num l == 0) = false := beq_eq_false_iff_ne.2 h1
    obtain ⟨x, hx⟩ : ∃ x, Vm.chk num l = x := ⟨_, rfl⟩
    rw [hx] at C1 HF g0
    clear h1 hx hla
    go_enter Try.func20, Try.ntmps20
    go_wp2_with fail
    rw [HW1.out]
    refine (C1.out _ HL.out).mono ?_
    rintro e w2 ⟨rfl, hb2⟩
    have HB2 := Lib.hid (HB1.out.trans (hb2.mono (by omega)))
    clear hb2
    go_wp2_with fail
    go_ret2
    exact ⟨by rw [HF.out]; rfl, HB2.out.mono (by rw [HBB.out]; exact Nat.le_refl _)⟩

end Go.Proofs.Ytebkgndcgcdogaa
