/-
  Contracts of refs: valid, Check.
-/
import Derived.Test.YtmdakplaaehmnaaId
namespace Go.Proofs.Ytmdakplaaehmnaa
open Go.RowKit
set_option maxHeartbeats 4000000

set_option maxRecDepth 100000 in
theorem valid_any (a ct : Int) (S : ByteArray) (w : World) (hS : S.size ≤ 140737488355328) :
    Calls Try.prog 32 #[.agg #[.int .i64 a, .int .i64 ct, .string S]] w fun e w' => e = .returned (.bool (Im.okR (a, ct, S.data.toList))) ∧ Below w.heap.size w w' := by
  have hss : S.data.toList.length = S.size := Array.length_toList
  obtain ⟨s, hs⟩ : ∃ s, S.data.toList = s := ⟨_, rfl⟩
  rw [hs] at hss ⊢
  obtain ⟨D, hD⟩ : ∃ D, Dm.sum s = D := ⟨_, rfl⟩
  have hsum := fun V => sum_any S V (by unfold maxLen; omega)
  rw [hs, hD] at hsum
  have CS := Lib.hid hsum
  obtain ⟨B, hB⟩ : ∃ B, w.heap.size = B := ⟨_, rfl⟩
  obtain ⟨w1, hw1⟩ : ∃ V, w.alloc (.cells #[.int .i64 a, .int .i64 ct, .string S] 37) = V := ⟨_, rfl⟩
  have hn1 : w1.heap[B]? = some (.cells #[.int .i64 a, .int .i64 ct, .string S] 37 (0, 0)) := by rw [← hw1, ← hB]; exact heap_alloc_new _ _
  have hb1 : Below B w w1 := by rw [← hw1, ← hB]; exact (Below.refl _ _).alloc (Nat.le_refl _) _
  have hs1 : w1.heap.size = B + 1 := by rw [← hw1]; simp [hB]
  have fr : ∀ y : Ext w1.heap.size w1, y.1.cell? ⟨B, 0, none⟩ = some (.int .i64 a) ∧ y.1.cell? ⟨B, 1, none⟩ = some (.int .i64 ct) ∧ y.1.cell? ⟨B, 2, none⟩ = some (.string S) := fun y => by
    have h1 := (y.2.block B (by omega)).trans hn1
    refine ⟨?_, ?_, ?_⟩ <;> simp [World.cell?, h1]
  have g0 := fun y => (fr y).1
  have g1 := fun y => (fr y).2.1
  have g2 := fun y => (fr y).2.2
  have HW1 := Lib.hid hw1
  have HB1 := Lib.hid hb1
  have HD := Lib.hid hD
  have hok : Im.okR (a, ct, s) = (((decide (1 ≤ ct) && decide (ct ≤ 2147483646)) && decide ((S.size : Int) ≤ 16384)) && (a == D)) := by
    unfold Im.okR
    rw [Bool.eq_iff_iff]
    simp only [Bool.and_eq_true, decide_eq_true_eq, beq_iff_eq]
    rw [HD.out]
    omega
  rw [hok]
  clear hw1 hb1 hsum hD hs hss fr hok hn1
  rw [hB]
  obtain ⟨b1, e1⟩ : ∃ b, decide (1 ≤ ct) = b := ⟨_, rfl⟩
  obtain ⟨b2, e2⟩ : ∃ b, decide (ct ≤ 2147483646) = b := ⟨_, rfl⟩
  obtain ⟨b3, e3⟩ : ∃ b, decide ((S.size : Int) ≤ 16384) = b := ⟨_, rfl⟩
  obtain ⟨b4, e4⟩ : ∃ b, (a == D) = b := ⟨_, rfl⟩
  rw [e1, e2, e3, e4]
  go_enter Try.func32, Try.ntmps32
  go_wp2_with fail
  rw [HW1.out]
  clear hB
  cases b1 <;> cases b2 <;> cases b3 <;> cases b4
  all_goals
    refine wp_region_below w1.heap.size (by kernel_rfl) (by kernel_rfl) ?_
    repeat (go_big_quiet_step ((go_at_call 13; exact Calls.ext_same _ (CS.out _))))
    refine wpQuiet_nil ?_
    intro w5 hB5
    have HB5 := Lib.hid (HB1.out.trans (hB5.mono (by omega)))
    clear hB5
    go_wp2_with fail
    go_ret
    exact ⟨rfl, HB5.out⟩


set_option maxRecDepth 100000 in
theorem check_any (A : Option Addr) (n c : Nat) (l : List Im.Rw) (w : World) (hl : RowsIn w A n c l) (hz : ∀ x ∈ l, x.2.2.length ≤ 140737488355328) (hn : n ≤ 17592186044416) :
    Calls Try.prog 18 #[.agg #[.slice A n c]] w fun e w' => e = .returned (.int .i64 (Im.chk l)) ∧ Below w.heap.size w w' := by
  have hln := hl.1
  by_cases h1 : 1024 < n
  · have HF := Lib.hid (Im.chk_long (l := l) (by omega))
    have d1 : decide ((1024 : Int) < (n : Int)) = true := by simp; omega
    clear hl
    go_enter Try.func18, Try.ntmps18
    go_wp2
    go_ret
    exact ⟨by rw [HF.out]; rfl, (Below.refl _ _).alloc (Nat.le_refl _) _⟩
  have d1 : decide ((1024 : Int) < (n : Int)) = false := by simp; omega
  obtain ⟨B, hB⟩ : ∃ B, w.heap.size = B := ⟨_, rfl⟩
  obtain ⟨w1, hw1⟩ : ∃ V, w.alloc (.cells #[.slice A n c] 25) = V := ⟨_, rfl⟩
  have hb1 : Below B w w1 := by rw [← hw1, ← hB]; exact (Below.refl _ _).alloc (Nat.le_refl _) _
  have hs1 : w1.heap.size = B + 1 := by rw [← hw1]; simp [hB]
  have hx1 : w1.heap[B]? = some (.cells #[.slice A n c] 25 (0, 0)) := by rw [← hw1, ← hB]; exact heap_alloc_new _ _
  have HL := Lib.hid hl
  have HLN := Lib.hid hln
  have HZ := Lib.hid hz
  have HW1 := Lib.hid hw1
  have HB1 := Lib.hid hb1
  have HX1 := Lib.hid hx1
  have HBE := Lib.hid hB
  clear hl hz hw1 hb1 hx1 hln
  rw [hB]
  go_enter Try.func18, Try.ntmps18
  go_wp2_with fail
  rw [HW1.out]
  clear hB
  go_loopw [12] (fun i wr => ∃ k : Nat, k ≤ n ∧ i = .int .i64 k ∧ Below (B + 1) w1 wr ∧ (∀ j (hj : j < l.length), j < k → Im.okR l[j] = true) ∧ ∀ j (hj : j + 1 < l.length), j + 1 < k → l[j].1 < l[j + 1].1) (fun i _ => n - (intOf i).toNat)
  case atStart => exact ⟨0, by omega, rfl, Below.refl _ _, fun j _ h => absurd h (by omega), fun j _ h => absurd h (by omega)⟩
  case round =>
    obtain ⟨k, hk, rfl, hBr, hok, hasc⟩ := hrel
    have hsz := hBr.size
    by_cases hlt : k < n
    · have d8 : decide ((k : Int) < (n : Int)) = true := by simp; omega
      obtain ⟨g, o, rfl, hg, hzl, y0, y1, y2⟩ := HL.out.at hlt
      rw [HBE.out] at hg
      have hBw : Below B w wr := HB1.out.trans (hBr.mono (by omega))
      have z0 := (hBw.cell (p := ⟨g, o + k * 3, none⟩) hg).trans y0
      have z1 := (hBw.cell (p := ⟨g, o + k * 3 + 1, none⟩) hg).trans y1
      have z2 := (hBw.cell (p := ⟨g, o + k * 3 + 2, none⟩) hg).trans y2
      have hkl : k < l.length := by rw [HLN.out]; exact hlt
      have hzk := HZ.out _ (List.getElem_mem hkl)
      obtain ⟨x, hx⟩ : ∃ x, l[k] = x := ⟨_, rfl⟩
      rw [hx] at z0 z1 z2 hzk
      obtain ⟨a, ct, s⟩ := x
      simp only at z0 z1 z2 hzk
      obtain ⟨S, hS⟩ : ∃ S, Cm.b s = S := ⟨_, rfl⟩
      rw [hS] at z2
      have hSl : S.data.toList = s := by rw [← hS, Cm.b_list]
      have hSs : S.size = s.length := by rw [← hS, Cm.b_size']
      obtain ⟨q, hq⟩ : ∃ q, Im.okR (a, ct, s) = q := ⟨_, rfl⟩
      have hv := fun V => valid_any a ct S V (by omega)
      rw [hSl, hq] at hv
      have HV := Lib.hid hv
      -- the row that went before
      obtain ⟨pa, hpa⟩ : ∃ pa, 0 < k → ∃ h : k - 1 < l.length, l[k - 1].1 = pa ∧ wr.cell? ⟨g, o + (k - 1) * 3, none⟩ = some (.int .i64 pa) := by
        by_cases h0 : 0 < k
        · obtain ⟨g', o', hA, _, hzp, p0, _, _⟩ := HL.out.at (i := k - 1) (by omega)
          injection hA with hA
          injection hA with hA1 hA2
          subst hA1 hA2
          exact ⟨_, fun _ => ⟨hzp, rfl, (hBw.cell (p := ⟨g, o + (k - 1) * 3, none⟩) hg).trans p0⟩⟩
        · exact ⟨0, fun h => absurd h h0⟩
      obtain ⟨nb, hnb⟩ : ∃ nb, wr.heap.size = nb := ⟨_, rfl⟩
      obtain ⟨wa, hwa⟩ : ∃ V, wr.alloc (.cells #[.int .i64 a, .int .i64 ct, .string S] 37) = V := ⟨_, rfl⟩
      have hna : wa.heap[nb]? = some (.cells #[.int .i64 a, .int .i64 ct, .string S] 37 (0, 0)) := by rw [← hwa, ← hnb]; exact heap_alloc_new _ _
      have hsa : wa.heap.size = nb + 1 := by rw [← hwa]; simp [hnb]
      have hBa : Below (B + 1) w1 wa := by rw [← hwa]; exact hBr.alloc (by omega) _
      have hra : Below wr.heap.size wr wa := by rw [← hwa]; exact (Below.refl _ _).alloc (Nat.le_refl _) _
      have hxa : wa.heap[B]? = some (.cells #[.slice (some ⟨g, o, none⟩) n c] 25 (0, 0)) := (hBa.block B (by omega)).trans HX1.out
      have hgl : g < wr.heap.size := by omega
      have fr : ∀ y : Ext wa.heap.size wa, y.1.cell? ⟨nb, 0, none⟩ = some (.int .i64 a) ∧ y.1.cell? ⟨nb, 1, none⟩ = some (.int .i64 ct) ∧ y.1.cell? ⟨nb, 2, none⟩ = some (.string S) ∧ y.1.cell? ⟨B, 0, none⟩ = some (.slice (some ⟨g, o, none⟩) n c) := fun y => by
        have h1 := (y.2.block nb (by omega)).trans hna
        have h2 := (y.2.block B (by omega)).trans hxa
        refine ⟨?_, ?_, ?_, ?_⟩ <;> simp [World.cell?, h1, h2]
      have g0 := fun y => (fr y).1
      have g1 := fun y => (fr y).2.1
      have g2 := fun y => (fr y).2.2.1
      have g3 := fun y => (fr y).2.2.2
      have gp : 0 < k → ∀ y : Ext wa.heap.size wa, y.1.cell? ⟨g, o + (k - 1) * 3, none⟩ = some (.int .i64 pa) := fun h0 y => by
        obtain ⟨_, _, h⟩ := hpa h0
        exact (y.2.cell (p := ⟨g, o + (k - 1) * 3, none⟩) (by show g < _; omega)).trans ((hra.cell (p := ⟨g, o + (k - 1) * 3, none⟩) hgl).trans h)
      have HWA := Lib.hid hwa
      have HBA := Lib.hid hBa
      have HOK := Lib.hid hok
      have HASC := Lib.hid hasc
      have HX := Lib.hid hx
      have HPA := Lib.hid hpa
      have HQ := Lib.hid hq
      have HHK := Lib.hid hkl
      have k0 : (0 : Int) ≤ (k : Int) := by omega
      have hsw : B ≤ wa.heap.size := by omega
      clear hwa hBa hok hasc hBr hBw y0 y1 y2 hx hpa hq hSs hSl hS hv hna hxa hra fr hzl hg
      cases q
      · have HF := Lib.hid (Im.chk_bad HHK.out (by rw [HX.out]; exact HQ.out))
        go_wp2_with fail
        rw [HWA.out]
        go_wp2_with fail
        refine wp_region_below wa.heap.size (by kernel_rfl) (by kernel_rfl) ?_
        repeat (go_big_quiet_step ((go_at_call 32; exact Calls.ext_of _ (Nat.le_refl _) (HV.out _))))
        refine wpQuiet_nil ?_
        intro w5 hB5
        have HB5 := Lib.hid (HBA.out.trans (hB5.mono (by omega)))
        clear g0 g1 g2 g3 gp hB5
        go_wp2_with fail
        go_ret
        exact ⟨by rw [HF.out]; rfl, HB1.out.trans (HB5.out.mono (by omega))⟩
      · by_cases c3 : 0 < k ∧ a ≤ pa
        · obtain ⟨c4, c5⟩ := c3
          have e3 : decide ((0 : Int) < (k : Int)) = true := by simp; omega
          have e4 : decide (a ≤ pa) = true := by simpa using c5
          have g4 := gp c4
          have k1 : (0 : Int) ≤ (k : Int) - 1 := by omega
          have k2 : (k : Int) - 1 < (n : Int) := by omega
          have HF := Lib.hid (show Im.chk l = 2 from by
            obtain ⟨hq, hp, _⟩ := HPA.out c4
            refine Im.chk_order (l := l) (i := k - 1) (by have := HHK.out; omega) ?_
            have e : l[k - 1 + 1]'(by have := HHK.out; omega) = (a, ct, s) := by
              have := HX.out
              simp only [show k - 1 + 1 = k by omega]
              exact this
            rw [hp, e]
            omega)
          go_wp2_with fail
          rw [HWA.out]
          go_wp2_with fail
          refine wp_region_below wa.heap.size (by kernel_rfl) (by kernel_rfl) ?_
          repeat (go_big_quiet_step ((go_at_call 32; exact Calls.ext_of _ (Nat.le_refl _) (HV.out _))))
          refine wpQuiet_nil ?_
          intro w5 hB5
          have HB5 := Lib.hid (HBA.out.trans (hB5.mono (by omega)))
          clear g4 g0 g1 g2 g3 gp hB5
          go_wp2_with fail
          go_ret
          exact ⟨by rw [HF.out]; rfl, HB1.out.trans (HB5.out.mono (by omega))⟩
        have HASC2 := Lib.hid (show ∀ j (hj : j + 1 < l.length), j + 1 < k + 1 → l[j].1 < l[j + 1].1 from fun j hj h => by
          by_cases e : j + 1 = k
          · obtain ⟨hq, hp, _⟩ := HPA.out (by omega)
            have h1 : l[j].1 = pa := by simp only [← hp]; congr 2; omega
            have h2 : l[j + 1] = (a, ct, s) := by have := HX.out; simp only [e]; exact this
            rw [h1, h2]
            show pa < a
            have : ¬ (0 < k ∧ a ≤ pa) := c3
            omega
          · exact HASC.out j hj (by omega))
        have HOK2 := Lib.hid (show ∀ j (hj : j < l.length), j < k + 1 → Im.okR l[j] = true from fun j hj h => by
          by_cases e : j = k
          · subst e
            rw [HX.out]; exact HQ.out
          · exact HOK.out j hj (by omega))
        by_cases c9 : 0 < k
        · have e3 : decide ((0 : Int) < (k : Int)) = true := by simp; omega
          have e4 : decide (a ≤ pa) = false := by simp; omega
          have g4 := gp c9
          have k1 : (0 : Int) ≤ (k : Int) - 1 := by omega
          have k2 : (k : Int) - 1 < (n : Int) := by omega
          go_wp2_with fail
          rw [HWA.out]
          go_wp2_with fail
          refine wp_region_below wa.heap.size (by kernel_rfl) (by kernel_rfl) ?_
          repeat (go_big_quiet_step ((go_at_call 32; exact Calls.ext_of _ (Nat.le_refl _) (HV.out _))))
          refine wpQuiet_nil ?_
          intro w5 hB5
          have HB5 := Lib.hid (HBA.out.trans (hB5.mono (by omega)))
          clear g4 g0 g1 g2 g3 gp hB5
          go_wp2_with fail
          go_roundw
          case rel => exact ⟨k + 1, by omega, by go_num, HB5.out, HOK2.out, HASC2.out⟩
          case measure => simp [intOf]; omega
        · have e3 : decide ((0 : Int) < (k : Int)) = false := by simp; omega
          go_wp2_with fail
          rw [HWA.out]
          go_wp2_with fail
          refine wp_region_below wa.heap.size (by kernel_rfl) (by kernel_rfl) ?_
          repeat (go_big_quiet_step ((go_at_call 32; exact Calls.ext_of _ (Nat.le_refl _) (HV.out _))))
          refine wpQuiet_nil ?_
          intro w5 hB5
          have HB5 := Lib.hid (HBA.out.trans (hB5.mono (by omega)))
          clear g0 g1 g2 g3 gp hB5
          go_wp2_with fail
          go_roundw
          case rel => exact ⟨k + 1, by omega, by go_num, HB5.out, HOK2.out, HASC2.out⟩
          case measure => simp [intOf]; omega
    · obtain rfl : k = n := by omega
      have d8 : decide ((k : Int) < (k : Int)) = false := by simp
      have HF := Lib.hid (Im.chk_ok (l := l) (by rw [HLN.out]; omega) (fun j hj => hok j hj (by rw [HLN.out] at hj; exact hj)) (fun j hj => hasc j hj (by rw [HLN.out] at hj; exact hj)))
      clear hok hasc
      go_wp2_with fail
      go_ret
      exact ⟨by rw [HF.out]; rfl, HB1.out.trans (hBr.mono (by omega))⟩

end Go.Proofs.Ytmdakplaaehmnaa
