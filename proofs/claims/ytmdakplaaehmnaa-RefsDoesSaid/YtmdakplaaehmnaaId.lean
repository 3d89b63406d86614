/-
  Contracts of the reference of refs: Check, find.
  Contracts of the reference of refs: find.
  Contracts of the reference of refs: Get, Total.
  Contracts of the reference of refs: Total.
-/
import Derived.Test.YtmdakplaaehmnaaRw
import Derived.Test.YtmdakplaaehmnaaDigA
import Derived.Test.YtmdakplaaehmnaaChA
namespace Go.Proofs.Ytmdakplaaehmnaa
open Go.RowKit
set_option maxHeartbeats 2000000

theorem Cm.b_size' (x : List UInt8) : (Cm.b x).size = x.length := by show Array.size _ = _; simp

set_option maxRecDepth 100000 in
theorem rchkI_any (A : Option Addr) (n c : Nat) (l : List Im.Rw) (w : World) (hl : RowsIn w A n c l) (hz : ∀ x ∈ l, x.2.2.length ≤ 9223372036854775807) (hn : n ≤ 17592186044416) :
    Calls Try.prog 19 #[.agg #[.slice A n c]] w fun e w' => e = .returned (.int .i64 (Im.chk l)) ∧ Below w.heap.size w w' := by
  have hln := hl.1
  by_cases h1 : 1024 < n
  · have HF := Lib.hid (Im.chk_long (l := l) (by omega))
    have d1 : decide ((1024 : Int) < (n : Int)) = true := by simp; omega
    clear hl
    go_enter Try.func19, Try.ntmps19
    go_wp2
    go_ret
    exact ⟨by rw [HF.out]; rfl, (Below.refl _ _).alloc (Nat.le_refl _) _⟩
  have d1 : decide ((1024 : Int) < (n : Int)) = false := by simp; omega
  obtain ⟨B, hB⟩ : ∃ B, w.heap.size = B := ⟨_, rfl⟩
  obtain ⟨w1, hw1⟩ : ∃ V, w.alloc (.cells #[.slice A n c] 25) = V := ⟨_, rfl⟩
  have hb1 : Below B w w1 := by rw [← hw1, ← hB]; exact (Below.refl _ _).alloc (Nat.le_refl _) _
  have hs1 : w1.heap.size = B + 1 := by rw [← hw1]; simp [hB]
  have hx1 : w1.heap[B]? = some (.cells #[.slice A n c] 25 (0, 0)) := by rw [← hw1, ← hB]; exact heap_alloc_new _ _
  have HL := Lib.hid hl
  have HLN := Lib.hid hln
  have HZ := Lib.hid hz
  have HW1 := Lib.hid hw1
  have HB1 := Lib.hid hb1
  have HX1 := Lib.hid hx1
  have HBE := Lib.hid hB
  clear hl hz hw1 hb1 hx1 hln
  rw [hB]
  go_enter Try.func19, Try.ntmps19
  go_wp2_with fail
  rw [HW1.out]
  clear hB
  go_loopw [12] (fun i wr => ∃ k : Nat, k ≤ n ∧ i = .int .i64 k ∧ Below (B + 1) w1 wr ∧ (∀ j (hj : j < l.length), j < k → Im.okR l[j] = true) ∧ ∀ j (hj : j + 1 < l.length), j + 1 < k → l[j].1 < l[j + 1].1) (fun i _ => n - (intOf i).toNat)
  case atStart => exact ⟨0, by omega, rfl, Below.refl _ _, fun j _ h => absurd h (by omega), fun j _ h => absurd h (by omega)⟩
  case round =>
    obtain ⟨k, hk, rfl, hBr, hok, hasc⟩ := hrel
    have hsz := hBr.size
    by_cases hlt : k < n
    · have d8 : decide ((k : Int) < (n : Int)) = true := by simp; omega
      obtain ⟨g, o, rfl, hg, hzl, y0, y1, y2⟩ := HL.out.at hlt
      rw [HBE.out] at hg
      have hBw : Below B w wr := HB1.out.trans (hBr.mono (by omega))
      have z0 := (hBw.cell (p := ⟨g, o + k * 3, none⟩) hg).trans y0
      have z1 := (hBw.cell (p := ⟨g, o + k * 3 + 1, none⟩) hg).trans y1
      have z2 := (hBw.cell (p := ⟨g, o + k * 3 + 2, none⟩) hg).trans y2
      have hkl : k < l.length := by rw [HLN.out]; exact hlt
      have hzk := HZ.out _ (List.getElem_mem hkl)
      obtain ⟨x, hx⟩ : ∃ x, l[k] = x := ⟨_, rfl⟩
      rw [hx] at z0 z1 z2 hzk
      obtain ⟨a, ct, s⟩ := x
      simp only at z0 z1 z2 hzk
      obtain ⟨S, hS⟩ : ∃ S, Cm.b s = S := ⟨_, rfl⟩
      rw [hS] at z2
      have hSl : S.data.toList = s := by rw [← hS, Cm.b_list]
      have hSs : S.size = s.length := by rw [← hS, Cm.b_size']
      obtain ⟨D, hD⟩ : ∃ D, Dm.sum s = D := ⟨_, rfl⟩
      have hSum := fun V => rsum_any S V (by unfold maxLen; omega)
      rw [hSl, hD] at hSum
      have HS := Lib.hid hSum
      -- the row that went before
      obtain ⟨pa, hpa⟩ : ∃ pa, 0 < k → ∃ h : k - 1 < l.length, l[k - 1].1 = pa ∧ wr.cell? ⟨g, o + (k - 1) * 3, none⟩ = some (.int .i64 pa) := by
        by_cases h0 : 0 < k
        · obtain ⟨g', o', hA, _, hzp, p0, _, _⟩ := HL.out.at (i := k - 1) (by omega)
          injection hA with hA
          injection hA with hA1 hA2
          subst hA1 hA2
          exact ⟨_, fun _ => ⟨hzp, rfl, (hBw.cell (p := ⟨g, o + (k - 1) * 3, none⟩) hg).trans p0⟩⟩
        · exact ⟨0, fun h => absurd h h0⟩
      obtain ⟨nb, hnb⟩ : ∃ nb, wr.heap.size = nb := ⟨_, rfl⟩
      obtain ⟨wa, hwa⟩ : ∃ V, wr.alloc (.cells #[.int .i64 a, .int .i64 ct, .string S] 37) = V := ⟨_, rfl⟩
      have hna : wa.heap[nb]? = some (.cells #[.int .i64 a, .int .i64 ct, .string S] 37 (0, 0)) := by rw [← hwa, ← hnb]; exact heap_alloc_new _ _
      have hsa : wa.heap.size = nb + 1 := by rw [← hwa]; simp [hnb]
      have hBa : Below (B + 1) w1 wa := by rw [← hwa]; exact hBr.alloc (by omega) _
      have hra : Below wr.heap.size wr wa := by rw [← hwa]; exact (Below.refl _ _).alloc (Nat.le_refl _) _
      have hxa : wa.heap[B]? = some (.cells #[.slice (some ⟨g, o, none⟩) n c] 25 (0, 0)) := (hBa.block B (by omega)).trans HX1.out
      have hgl : g < wr.heap.size := by omega
      have fr : ∀ y : Ext wa.heap.size wa, y.1.cell? ⟨nb, 0, none⟩ = some (.int .i64 a) ∧ y.1.cell? ⟨nb, 1, none⟩ = some (.int .i64 ct) ∧ y.1.cell? ⟨nb, 2, none⟩ = some (.string S) ∧ y.1.cell? ⟨B, 0, none⟩ = some (.slice (some ⟨g, o, none⟩) n c) := fun y => by
        have h1 := (y.2.block nb (by omega)).trans hna
        have h2 := (y.2.block B (by omega)).trans hxa
        refine ⟨?_, ?_, ?_, ?_⟩ <;> simp [World.cell?, h1, h2]
      have g0 := fun y => (fr y).1
      have g1 := fun y => (fr y).2.1
      have g2 := fun y => (fr y).2.2.1
      have g3 := fun y => (fr y).2.2.2
      have gp : 0 < k → ∀ y : Ext wa.heap.size wa, y.1.cell? ⟨g, o + (k - 1) * 3, none⟩ = some (.int .i64 pa) := fun h0 y => by
        obtain ⟨_, _, h⟩ := hpa h0
        exact (y.2.cell (p := ⟨g, o + (k - 1) * 3, none⟩) (by show g < _; omega)).trans ((hra.cell (p := ⟨g, o + (k - 1) * 3, none⟩) hgl).trans h)
      have HWA := Lib.hid hwa
      have HBA := Lib.hid hBa
      have HOK := Lib.hid hok
      have HASC := Lib.hid hasc
      have HX := Lib.hid hx
      have HPA := Lib.hid hpa
      have HD := Lib.hid hD
      have HSS := Lib.hid hSs
      have HHK := Lib.hid hkl
      have k0 : (0 : Int) ≤ (k : Int) := by omega
      have hsw : B ≤ wa.heap.size := by omega
      clear hwa hBa hok hasc hBr hBw y0 y1 y2 hx hpa hD hSs hSl hS hSum hna hxa hra fr hzl hg
      by_cases c1 : 16384 < S.size
      · have HF := Lib.hid (Im.chk_bad HHK.out (by rw [HX.out]; unfold Im.okR; simp only [decide_eq_false_iff_not]; rw [HD.out, ← HSS.out]; omega))
        have e1 : decide ((16384 : Int) < (S.size : Int)) = true := by simp; omega
        go_wp2_with fail
        rw [HWA.out]
        go_wp2_with fail
        refine wp_region_below wa.heap.size (by kernel_rfl) (by kernel_rfl) ?_
        repeat (go_big_quiet_step ((go_at_call 33; exact Calls.ext_same _ (HS.out _))))
        refine wpQuiet_nil ?_
        intro w5 hB5
        have HB5 := Lib.hid (HBA.out.trans (hB5.mono (by omega)))
        clear g0 g1 g2 g3 gp hB5
        go_wp2_with fail
        go_ret
        exact ⟨by rw [HF.out]; rfl, HB1.out.trans (HB5.out.mono (by omega))⟩
      have e1 : decide ((16384 : Int) < (S.size : Int)) = false := by simp; omega
      by_cases c2 : a = D
      · have e2 : (a != D) = false := by simp [c2]
        have e2' : (a == D) = true := by simp [c2]
        have HC2 := Lib.hid c2
        clear c2
        by_cases c3 : 0 < k ∧ a ≤ pa
        · obtain ⟨c4, c5⟩ := c3
          have e3 : decide ((0 : Int) < (k : Int)) = true := by simp; omega
          have e4 : decide (a ≤ pa) = true := by simpa using c5
          have g4 := gp c4
          have k1 : (0 : Int) ≤ (k : Int) - 1 := by omega
          have k2 : (k : Int) - 1 < (n : Int) := by omega
          have HF := Lib.hid (show Im.chk l = 2 from by
            obtain ⟨hq, hp, _⟩ := HPA.out c4
            refine Im.chk_order (l := l) (i := k - 1) (by have := HHK.out; omega) ?_
            have e : l[k - 1 + 1]'(by have := HHK.out; omega) = (a, ct, s) := by
              have := HX.out
              simp only [show k - 1 + 1 = k by omega]
              exact this
            rw [hp, e]
            omega)
          go_wp2_with fail
          rw [HWA.out]
          go_wp2_with fail
          refine wp_region_below wa.heap.size (by kernel_rfl) (by kernel_rfl) ?_
          repeat (go_big_quiet_step ((go_at_call 33; exact Calls.ext_same _ (HS.out _))))
          refine wpQuiet_nil ?_
          intro w5 hB5
          have HB5 := Lib.hid (HBA.out.trans (hB5.mono (by omega)))
          clear g4 g0 g1 g2 g3 gp hB5
          go_wp2_with fail
          go_ret
          exact ⟨by rw [HF.out]; rfl, HB1.out.trans (HB5.out.mono (by omega))⟩
        have HASC2 := Lib.hid (show ∀ j (hj : j + 1 < l.length), j + 1 < k + 1 → l[j].1 < l[j + 1].1 from fun j hj h => by
          by_cases e : j + 1 = k
          · obtain ⟨hq, hp, _⟩ := HPA.out (by omega)
            have h1 : l[j].1 = pa := by simp only [← hp]; congr 2; omega
            have h2 : l[j + 1] = (a, ct, s) := by have := HX.out; simp only [e]; exact this
            rw [h1, h2]
            show pa < a
            have : ¬ (0 < k ∧ a ≤ pa) := c3
            omega
          · exact HASC.out j hj (by omega))
        by_cases c6 : ct < 1
        · have HF := Lib.hid (Im.chk_bad HHK.out (by rw [HX.out]; unfold Im.okR; simp only [decide_eq_false_iff_not]; rw [HD.out, ← HSS.out]; omega))
          by_cases c9 : 0 < k
          · have e3 : decide ((0 : Int) < (k : Int)) = true := by simp; omega
            have e4 : decide (a ≤ pa) = false := by simp; omega
            have g4 := gp c9
            have k1 : (0 : Int) ≤ (k : Int) - 1 := by omega
            have k2 : (k : Int) - 1 < (n : Int) := by omega
            have e5 : decide (ct < 1) = true := by simpa using c6
            go_wp2_with fail
            rw [HWA.out]
            go_wp2_with fail
            refine wp_region_below wa.heap.size (by kernel_rfl) (by kernel_rfl) ?_
            repeat (go_big_quiet_step ((go_at_call 33; exact Calls.ext_same _ (HS.out _))))
            refine wpQuiet_nil ?_
            intro w5 hB5
            have HB5 := Lib.hid (HBA.out.trans (hB5.mono (by omega)))
            clear g4 g0 g1 g2 g3 gp hB5
            go_wp2_with fail
            go_ret
            exact ⟨by rw [HF.out]; rfl, HB1.out.trans (HB5.out.mono (by omega))⟩
          · have e3 : decide ((0 : Int) < (k : Int)) = false := by simp; omega
            have e5 : decide (ct < 1) = true := by simpa using c6
            go_wp2_with fail
            rw [HWA.out]
            go_wp2_with fail
            refine wp_region_below wa.heap.size (by kernel_rfl) (by kernel_rfl) ?_
            repeat (go_big_quiet_step ((go_at_call 33; exact Calls.ext_same _ (HS.out _))))
            refine wpQuiet_nil ?_
            intro w5 hB5
            have HB5 := Lib.hid (HBA.out.trans (hB5.mono (by omega)))
            clear g0 g1 g2 g3 gp hB5
            go_wp2_with fail
            go_ret
            exact ⟨by rw [HF.out]; rfl, HB1.out.trans (HB5.out.mono (by omega))⟩
        have e5 : decide (ct < 1) = false := by simpa using c6
        by_cases c7 : 2147483647 ≤ ct
        · have HF := Lib.hid (Im.chk_bad HHK.out (by rw [HX.out]; unfold Im.okR; simp only [decide_eq_false_iff_not]; rw [HD.out, ← HSS.out]; omega))
          by_cases c9 : 0 < k
          · have e3 : decide ((0 : Int) < (k : Int)) = true := by simp; omega
            have e4 : decide (a ≤ pa) = false := by simp; omega
            have g4 := gp c9
            have k1 : (0 : Int) ≤ (k : Int) - 1 := by omega
            have k2 : (k : Int) - 1 < (n : Int) := by omega
            have e6 : decide (2147483647 ≤ ct) = true := by simpa using c7
            go_wp2_with fail
            rw [HWA.out]
            go_wp2_with fail
            refine wp_region_below wa.heap.size (by kernel_rfl) (by kernel_rfl) ?_
            repeat (go_big_quiet_step ((go_at_call 33; exact Calls.ext_same _ (HS.out _))))
            refine wpQuiet_nil ?_
            intro w5 hB5
            have HB5 := Lib.hid (HBA.out.trans (hB5.mono (by omega)))
            clear g4 g0 g1 g2 g3 gp hB5
            go_wp2_with fail
            go_ret
            exact ⟨by rw [HF.out]; rfl, HB1.out.trans (HB5.out.mono (by omega))⟩
          · have e3 : decide ((0 : Int) < (k : Int)) = false := by simp; omega
            have e6 : decide (2147483647 ≤ ct) = true := by simpa using c7
            go_wp2_with fail
            rw [HWA.out]
            go_wp2_with fail
            refine wp_region_below wa.heap.size (by kernel_rfl) (by kernel_rfl) ?_
            repeat (go_big_quiet_step ((go_at_call 33; exact Calls.ext_same _ (HS.out _))))
            refine wpQuiet_nil ?_
            intro w5 hB5
            have HB5 := Lib.hid (HBA.out.trans (hB5.mono (by omega)))
            clear g0 g1 g2 g3 gp hB5
            go_wp2_with fail
            go_ret
            exact ⟨by rw [HF.out]; rfl, HB1.out.trans (HB5.out.mono (by omega))⟩
        have HOK2 := Lib.hid (show ∀ j (hj : j < l.length), j < k + 1 → Im.okR l[j] = true from fun j hj h => by
          by_cases e : j = k
          · subst e
            rw [HX.out]; unfold Im.okR; simp only [decide_eq_true_eq]; rw [HD.out, ← HSS.out]; have := HC2.out; omega
          · exact HOK.out j hj (by omega))
        by_cases c9 : 0 < k
        · have e3 : decide ((0 : Int) < (k : Int)) = true := by simp; omega
          have e4 : decide (a ≤ pa) = false := by simp; omega
          have g4 := gp c9
          have k1 : (0 : Int) ≤ (k : Int) - 1 := by omega
          have k2 : (k : Int) - 1 < (n : Int) := by omega
          have e6 : decide (2147483647 ≤ ct) = false := by simpa using c7
          go_wp2_with fail
          rw [HWA.out]
          go_wp2_with fail
          refine wp_region_below wa.heap.size (by kernel_rfl) (by kernel_rfl) ?_
          repeat (go_big_quiet_step ((go_at_call 33; exact Calls.ext_same _ (HS.out _))))
          refine wpQuiet_nil ?_
          intro w5 hB5
          have HB5 := Lib.hid (HBA.out.trans (hB5.mono (by omega)))
          clear g4 g0 g1 g2 g3 gp hB5
          go_wp2_with fail
          go_roundw
          case rel => exact ⟨k + 1, by omega, by go_num, HB5.out, HOK2.out, HASC2.out⟩
          case measure => simp [intOf]; omega
        · have e3 : decide ((0 : Int) < (k : Int)) = false := by simp; omega
          have e6 : decide (2147483647 ≤ ct) = false := by simpa using c7
          go_wp2_with fail
          rw [HWA.out]
          go_wp2_with fail
          refine wp_region_below wa.heap.size (by kernel_rfl) (by kernel_rfl) ?_
          repeat (go_big_quiet_step ((go_at_call 33; exact Calls.ext_same _ (HS.out _))))
          refine wpQuiet_nil ?_
          intro w5 hB5
          have HB5 := Lib.hid (HBA.out.trans (hB5.mono (by omega)))
          clear g0 g1 g2 g3 gp hB5
          go_wp2_with fail
          go_roundw
          case rel => exact ⟨k + 1, by omega, by go_num, HB5.out, HOK2.out, HASC2.out⟩
          case measure => simp [intOf]; omega
      · have HF := Lib.hid (Im.chk_bad HHK.out (by rw [HX.out]; unfold Im.okR; simp only [decide_eq_false_iff_not]; rw [HD.out, ← HSS.out]; omega))
        have e2 : (a != D) = true := by simpa using c2
        have e2' : (a == D) = false := beq_eq_false_iff_ne.2 c2
        go_wp2_with fail
        rw [HWA.out]
        go_wp2_with fail
        refine wp_region_below wa.heap.size (by kernel_rfl) (by kernel_rfl) ?_
        repeat (go_big_quiet_step ((go_at_call 33; exact Calls.ext_same _ (HS.out _))))
        refine wpQuiet_nil ?_
        intro w5 hB5
        have HB5 := Lib.hid (HBA.out.trans (hB5.mono (by omega)))
        clear g0 g1 g2 g3 gp hB5
        go_wp2_with fail
        go_ret
        exact ⟨by rw [HF.out]; rfl, HB1.out.trans (HB5.out.mono (by omega))⟩
    · obtain rfl : k = n := by omega
      have d8 : decide ((k : Int) < (k : Int)) = false := by simp
      have HF := Lib.hid (Im.chk_ok (l := l) (by rw [HLN.out]; omega) (fun j hj => hok j hj (by rw [HLN.out] at hj; exact hj)) (fun j hj => hasc j hj (by rw [HLN.out] at hj; exact hj)))
      clear hok hasc
      go_wp2_with fail
      go_ret
      exact ⟨by rw [HF.out]; rfl, HB1.out.trans (hBr.mono (by omega))⟩

end Go.Proofs.Ytmdakplaaehmnaa

namespace Go.Proofs.Ytmdakplaaehmnaa
open Go.RowKit
set_option maxHeartbeats 2000000

theorem Im.has_at {l : List Im.Rw} {d : Int} {k : Nat} (hk : k < l.length) (h1 : ∀ j (hj : j < l.length), j < k → l[j].1 < d) (h2 : d ≤ l[k].1) : Im.find l d = k ∧ Im.has l d = decide (l[k].1 = d) := by
  have e : Im.find l d = k := Im.find_eq (by omega) h1 (fun _ => h2)
  refine ⟨e, ?_⟩
  unfold Im.has
  rw [e, List.getElem?_eq_getElem hk]
  rfl
theorem Im.has_out {l : List Im.Rw} {d : Int} (h1 : ∀ j (hj : j < l.length), l[j].1 < d) : Im.find l d = l.length ∧ Im.has l d = false := by
  have e : Im.find l d = l.length := Im.find_eq (by omega) (fun j hj _ => h1 j hj) (fun h => absurd h (by omega))
  refine ⟨e, ?_⟩
  unfold Im.has
  rw [e, List.getElem?_eq_none (by omega)]
  rfl

set_option maxRecDepth 100000 in
theorem rfindI_any (A : Option Addr) (n c : Nat) (l : List Im.Rw) (d : Int) (w : World) (hl : RowsIn w A n c l) (hn : n ≤ 17592186044416) :
    Calls Try.prog 40 #[.agg #[.slice A n c], .int .i64 d] w fun e w' => e = .returned (.tuple #[.int .i64 (Im.find l d : Nat), .bool (Im.has l d)]) ∧ Below w.heap.size w w' := by
  have hln := hl.1
  obtain ⟨B, hB⟩ : ∃ B, w.heap.size = B := ⟨_, rfl⟩
  obtain ⟨w1, hw1⟩ : ∃ V, w.alloc (.cells #[.slice A n c] 25) = V := ⟨_, rfl⟩
  have hb1 : Below B w w1 := by rw [← hw1, ← hB]; exact (Below.refl _ _).alloc (Nat.le_refl _) _
  have hs1 : w1.heap.size = B + 1 := by rw [← hw1]; simp [hB]
  have hx1 : w1.heap[B]? = some (.cells #[.slice A n c] 25 (0, 0)) := by rw [← hw1, ← hB]; exact heap_alloc_new _ _
  have HL := Lib.hid hl
  have HLN := Lib.hid hln
  have HW1 := Lib.hid hw1
  have HB1 := Lib.hid hb1
  have HX1 := Lib.hid hx1
  have HBE := Lib.hid hB
  clear hl hw1 hb1 hx1 hln
  rw [hB]
  go_enter Try.func40, Try.ntmps40
  go_wp2_with fail
  rw [HW1.out]
  clear hB
  go_loopw [11] (fun i wr => ∃ k : Nat, k ≤ n ∧ i = .int .i64 k ∧ Below (B + 1) w1 wr ∧ ∀ j (hj : j < l.length), j < k → l[j].1 < d) (fun i _ => n - (intOf i).toNat)
  case atStart => exact ⟨0, by omega, rfl, Below.refl _ _, fun j _ h => absurd h (by omega)⟩
  case round =>
    obtain ⟨k, hk, rfl, hBr, hlow⟩ := hrel
    have hsz := hBr.size
    have hx0 : wr.heap[B]? = some (.cells #[.slice A n c] 25 (0, 0)) := (hBr.block B (by omega)).trans HX1.out
    have g3 : wr.cell? ⟨B, 0, none⟩ = some (.slice A n c) := by simp [World.cell?, hx0]
    by_cases hlt : k < n
    · have d8 : decide ((k : Int) < (n : Int)) = true := by simp; omega
      obtain ⟨g, o, rfl, hg, hzl, y0, y1, y2⟩ := HL.out.at hlt
      rw [HBE.out] at hg
      have hBw : Below B w wr := HB1.out.trans (hBr.mono (by omega))
      have z0 := (hBw.cell (p := ⟨g, o + k * 3, none⟩) hg).trans y0
      have z1 := (hBw.cell (p := ⟨g, o + k * 3 + 1, none⟩) hg).trans y1
      have z2 := (hBw.cell (p := ⟨g, o + k * 3 + 2, none⟩) hg).trans y2
      have hkl : k < l.length := by rw [HLN.out]; exact hlt
      obtain ⟨x, hx⟩ : ∃ x, l[k] = x := ⟨_, rfl⟩
      rw [hx] at z0 z1 z2
      obtain ⟨a, ct, s⟩ := x
      simp only at z0 z1 z2
      obtain ⟨S, hS⟩ : ∃ S, Cm.b s = S := ⟨_, rfl⟩
      rw [hS] at z2
      obtain ⟨nb, hnb⟩ : ∃ nb, wr.heap.size = nb := ⟨_, rfl⟩
      obtain ⟨wa, hwa⟩ : ∃ V, wr.alloc (.cells #[.int .i64 a, .int .i64 ct, .string S] 37) = V := ⟨_, rfl⟩
      have hna : wa.heap[nb]? = some (.cells #[.int .i64 a, .int .i64 ct, .string S] 37 (0, 0)) := by rw [← hwa, ← hnb]; exact heap_alloc_new _ _
      have hBa : Below (B + 1) w1 wa := by rw [← hwa]; exact hBr.alloc (by omega) _
      have g0 : wa.cell? ⟨nb, 0, none⟩ = some (.int .i64 a) := by simp [World.cell?, hna]
      have HWA := Lib.hid hwa
      have HBA := Lib.hid hBa
      have HLOW := Lib.hid hlow
      have HX := Lib.hid hx
      have HHK := Lib.hid hkl
      clear hwa hBa hlow hBr hBw y0 y1 y2 hx hS hna hx0 hzl hg
      by_cases c1 : d ≤ a
      · have e1 : decide (d ≤ a) = true := by simpa using c1
        have HF := Lib.hid (Im.has_at HHK.out HLOW.out (show d ≤ (l[k]'HHK.out).1 by rw [HX.out]; exact c1))
        obtain ⟨q, e7⟩ : ∃ q : Bool, (a == d) = q := ⟨_, rfl⟩
        have HQ := Lib.hid (show decide (a = d) = q by rw [← e7]; exact (Bool.beq_eq_decide_eq a d).symm)
        go_wp2_with fail
        rw [HWA.out]
        go_wp2_with fail
        go_region
        go_wp2_with fail
        refine bodyPost_ret (v := .tuple #[.int .i64 k, .bool q]) (by simp [results, Try.results40, go_sem]) rfl ⟨?_, (HB1.out.trans (HBA.out.mono (Nat.le_succ B))).drew⟩
        rw [HF.out.1, HF.out.2, HX.out, HQ.out]
      · have e1 : decide (d ≤ a) = false := by simpa using c1
        go_wp2_with fail
        rw [HWA.out]
        go_wp2_with fail
        go_roundw
        case rel =>
          refine ⟨k + 1, by omega, by go_num, HBA.out, fun j hj h => ?_⟩
          by_cases e : j = k
          · subst e
            rw [HX.out]; show a < d; omega
          · exact HLOW.out j hj (by omega)
        case measure => simp [intOf]; omega
    · obtain rfl : k = n := by omega
      have d8 : decide ((k : Int) < (k : Int)) = false := by simp
      have HF := Lib.hid (Im.has_out (l := l) (d := d) (fun j hj => hlow j hj (by rw [HLN.out] at hj; exact hj)))
      clear hlow
      go_wp2_with fail
      refine bodyPost_ret (v := .tuple #[.int .i64 k, .bool false]) (by simp [results, Try.results40, go_sem]) rfl ⟨?_, HB1.out.trans (hBr.mono (by omega))⟩
      rw [HF.out.1, HF.out.2, HLN.out]

end Go.Proofs.Ytmdakplaaehmnaa

namespace Go.Proofs.Ytmdakplaaehmnaa
open Go.RowKit
set_option maxHeartbeats 2000000

theorem Im.chk_is (l : List Im.Rw) : Im.chk l = 0 ∨ Im.chk l = 2 := by
  by_cases h : Im.chk l = 0
  · exact .inl h
  · exact .inr (Im.chk_two h)
theorem Im.has_row {l : List Im.Rw} {d : Int} (h : Im.has l d = true) : ∃ hi : Im.find l d < l.length, l[Im.find l d].1 = d := by
  unfold Im.has at h
  by_cases hi : Im.find l d < l.length
  · rw [List.getElem?_eq_getElem hi] at h
    exact ⟨hi, by simpa using h⟩
  · rw [List.getElem?_eq_none (by omega)] at h; cases h
theorem Im.get_has {l : List Im.Rw} {d : Int} (h0 : Im.chk l = 0) (h : Im.has l d = true) (hi : Im.find l d < l.length) : Im.get l d = (l[Im.find l d].2.2, l[Im.find l d].2.1, 0) := by
  obtain ⟨hi, e⟩ := Im.has_row h
  unfold Im.get
  rw [if_neg (by simp [h0]), List.getElem?_eq_getElem hi]
  simp only
  rw [if_pos e]
theorem Im.get_not {l : List Im.Rw} {d : Int} (h0 : Im.chk l = 0) (h : Im.has l d = false) : Im.get l d = ([], 0, 6) := by
  unfold Im.get
  unfold Im.has at h
  rw [if_neg (by simp [h0])]
  cases hq : l[Im.find l d]? with
  | none => rfl
  | some r =>
    rw [hq] at h
    simp only
    rw [if_neg (by simpa using h)]
theorem Im.get_bad {l : List Im.Rw} {d : Int} (h0 : Im.chk l = 2) : Im.get l d = ([], 0, 2) := by
  unfold Im.get
  rw [if_pos (by rw [h0]; decide)]
theorem b_nil : Cm.b [] = ByteArray.empty := by rfl

set_option maxRecDepth 100000 in
theorem rgetI_any (A : Option Addr) (n c : Nat) (l : List Im.Rw) (d : Int) (w : World) (hl : RowsIn w A n c l) (hz : ∀ x ∈ l, x.2.2.length ≤ 9223372036854775807) (hn : n ≤ 17592186044416) :
    Calls Try.prog 27 #[.agg #[.slice A n c], .int .i64 d] w fun e w' => e = .returned (.tuple #[.string (Cm.b (Im.get l d).1), .int .i64 (Im.get l d).2.1, .int .i64 (Im.get l d).2.2]) ∧ Below w.heap.size w w' := by
  have hln := hl.1
  obtain ⟨B, hB⟩ : ∃ B, w.heap.size = B := ⟨_, rfl⟩
  obtain ⟨w1, hw1⟩ : ∃ V, w.alloc (.cells #[.slice A n c] 25) = V := ⟨_, rfl⟩
  have hb1 : Below B w w1 := by rw [← hw1, ← hB]; exact (Below.refl _ _).alloc (Nat.le_refl _) _
  have hs1 : w1.heap.size = B + 1 := by rw [← hw1]; simp [hB]
  have hx1 : w1.heap[B]? = some (.cells #[.slice A n c] 25 (0, 0)) := by rw [← hw1, ← hB]; exact heap_alloc_new _ _
  have CK := Lib.hid (fun V (hV : Below w.heap.size w V) => rchkI_any A n c l V (hl.below hV) hz hn)
  have CF := Lib.hid (fun V (hV : Below w.heap.size w V) => rfindI_any A n c l d V (hl.below hV) hn)
  have HL := Lib.hid hl
  have HLN := Lib.hid hln
  have HW1 := Lib.hid hw1
  have HB1 := Lib.hid hb1
  have HX1 := Lib.hid hx1
  have HBE := Lib.hid hB
  clear hl hw1 hb1 hx1 hln hz
  rw [hB] at CK CF ⊢
  go_enter Try.func27, Try.ntmps27
  go_wp2_with fail
  rw [HW1.out]
  clear hB
  have g3 : w1.cell? ⟨B, 0, none⟩ = some (.slice A n c) := by have := HX1.out; simp [World.cell?, this]
  rcases Im.chk_is l with hc | hc
  · rw [hc] at CK
    cases hh : Im.has l d with
    | false =>
      rw [hh] at CF
      have HF := Lib.hid (Im.get_not (d := d) hc hh)
      clear hc hh
      go_wp2_with (first | (go_at_call 19; with_reducible refine (CK.out _ HB1.out).mono ?_; rintro e w2 ⟨rfl, hb2⟩; have HB2 := Lib.hid (show Below B w w2 from HB1.out.trans (hb2.mono (by omega))); have g5 := (hb2.cell (p := ⟨B, 0, none⟩) (by show B < _; omega)).trans g3; have hs2 := hb2.size; clear hb2) | (go_at_call 40; with_reducible refine (CF.out _ HB2.out).mono ?_; rintro e w3 ⟨rfl, hb3⟩; have HB3 := Lib.hid (show Below B w w3 from HB2.out.trans (hb3.mono (HBE.out ▸ HB2.out.size))); have g6 := (hb3.cell (p := ⟨B, 0, none⟩) (by show B < _; omega)).trans g5; clear hb3) | fail)
      exact bodyPost_ret (v := .tuple #[.string ByteArray.empty, .int .i64 0, .int .i64 6]) (by simp [results, Try.results27, go_sem]; rfl) rfl ⟨by rw [HF.out]; rfl, HB3.out⟩
    | true =>
      obtain ⟨hi, hj⟩ := Im.has_row hh
      have hF := Im.get_has (d := d) hc hh hi
      rw [hh] at CF
      obtain ⟨p, hp⟩ : ∃ p, Im.find l d = p := ⟨_, rfl⟩
      obtain ⟨x, hx⟩ : ∃ x, l[Im.find l d] = x := ⟨_, rfl⟩
      obtain ⟨g, o, rfl, hg, hzl, y0, y1, y2⟩ := HL.out.at (i := p) (by rw [← hp, ← HLN.out]; exact hi)
      have hx' : l[p] = x := by simp only [← hp]; exact hx
      rw [hx] at hF
      rw [hx'] at y0 y1 y2
      rw [hp] at CF
      have hpn : p < n := by rw [← hp, ← HLN.out]; exact hi
      have HF := Lib.hid hF
      obtain ⟨a, ct, s⟩ := x
      simp only at y0 y1 y2 HF
      obtain ⟨S, hS⟩ : ∃ S, Cm.b s = S := ⟨_, rfl⟩
      rw [hS] at y2
      have HS := Lib.hid hS
      have Y1 := Lib.hid y1
      have Y2 := Lib.hid y2
      have HG := Lib.hid (show g < B by rw [← HBE.out]; exact hg)
      clear hc hh hF hx hx' hp hzl hg y0 y1 y2 hj hS
      go_wp2_with (first | (go_at_call 19; with_reducible refine (CK.out _ HB1.out).mono ?_; rintro e w2 ⟨rfl, hb2⟩; have HB2 := Lib.hid (show Below B w w2 from HB1.out.trans (hb2.mono (by omega))); have g5 := (hb2.cell (p := ⟨B, 0, none⟩) (by show B < _; omega)).trans g3; have hs2 := hb2.size; clear hb2) | (go_at_call 40; with_reducible refine (CF.out _ HB2.out).mono ?_; rintro e w3 ⟨rfl, hb3⟩; have HB3 := Lib.hid (show Below B w w3 from HB2.out.trans (hb3.mono (HBE.out ▸ HB2.out.size))); have g6 := (hb3.cell (p := ⟨B, 0, none⟩) (by show B < _; omega)).trans g5; clear hb3) | fail)
      have z1 := (HB3.out.cell (p := ⟨g, o + p * 3 + 1, none⟩) HG.out).trans Y1.out
      have z2 := (HB3.out.cell (p := ⟨g, o + p * 3 + 2, none⟩) HG.out).trans Y2.out
      go_region
      go_wp2_with fail
      exact bodyPost_ret (v := .tuple #[.string S, .int .i64 ct, .int .i64 0]) (by simp [results, Try.results27, go_sem]) rfl ⟨by rw [HF.out, ← HS.out], HB3.out.drew⟩
  · rw [hc] at CK
    have HF := Lib.hid (Im.get_bad (d := d) hc)
    clear hc
    go_wp2_with (first | (go_at_call 19; with_reducible refine (CK.out _ HB1.out).mono ?_; rintro e w2 ⟨rfl, hb2⟩; have HB2 := Lib.hid (show Below B w w2 from HB1.out.trans (hb2.mono (by omega))); have g5 := (hb2.cell (p := ⟨B, 0, none⟩) (by show B < _; omega)).trans g3; have hs2 := hb2.size; clear hb2) | (go_at_call 40; with_reducible refine (CF.out _ HB2.out).mono ?_; rintro e w3 ⟨rfl, hb3⟩; have HB3 := Lib.hid (show Below B w w3 from HB2.out.trans (hb3.mono (HBE.out ▸ HB2.out.size))); have g6 := (hb3.cell (p := ⟨B, 0, none⟩) (by show B < _; omega)).trans g5; clear hb3) | fail)
    exact bodyPost_ret (v := .tuple #[.string ByteArray.empty, .int .i64 0, .int .i64 2]) (by simp [results, Try.results27, go_sem]; rfl) rfl ⟨by rw [HF.out]; rfl, HB2.out⟩

end Go.Proofs.Ytmdakplaaehmnaa

namespace Go.Proofs.Ytmdakplaaehmnaa
open Go.RowKit
set_option maxHeartbeats 2000000

theorem Im.once_snoc (l : List Im.Rw) (x : Im.Rw) : Im.once (l ++ [x]) = Im.once l + x.2.2.length := by
  induction l with
  | nil => simp [Im.once]
  | cons y l ih => 
    unfold Im.once at ih ⊢
    simp only [List.cons_append, List.map_cons, List.foldr_cons, ih]
    omega
theorem Im.all_snoc (l : List Im.Rw) (x : Im.Rw) : Im.all (l ++ [x]) = Im.all l + x.2.2.length * x.2.1 := by
  induction l with
  | nil => simp [Im.all]
  | cons y l ih => 
    unfold Im.all at ih ⊢
    simp only [List.cons_append, List.map_cons, List.foldr_cons, ih]
    omega
theorem Im.mul_bound {a : Nat} {b : Int} (ha : a ≤ 16384) (h0 : 1 ≤ b) (h1 : b < 2147483647) : 0 ≤ (a : Int) * b ∧ (a : Int) * b ≤ 35184372064256 := by
  refine ⟨Int.mul_nonneg (by omega) (by omega), ?_⟩
  have h2 : (a : Int) * b ≤ 16384 * b := Int.mul_le_mul_of_nonneg_right (by omega) (by omega)
  omega

set_option maxRecDepth 100000 in
theorem rtotI_any (A : Option Addr) (n c : Nat) (l : List Im.Rw) (w : World) (hl : RowsIn w A n c l) (hz : ∀ x ∈ l, x.2.2.length ≤ 9223372036854775807) (hn : n ≤ 17592186044416) :
    Calls Try.prog 17 #[.agg #[.slice A n c]] w fun e w' => e = .returned (.tuple #[.int .i64 (Im.tot l).1, .int .i64 (Im.tot l).2.1, .int .i64 (Im.tot l).2.2]) ∧ Below w.heap.size w w' := by
  have hln := hl.1
  obtain ⟨B, hB⟩ : ∃ B, w.heap.size = B := ⟨_, rfl⟩
  obtain ⟨w1, hw1⟩ : ∃ V, w.alloc (.cells #[.slice A n c] 25) = V := ⟨_, rfl⟩
  have hb1 : Below B w w1 := by rw [← hw1, ← hB]; exact (Below.refl _ _).alloc (Nat.le_refl _) _
  have hs1 : w1.heap.size = B + 1 := by rw [← hw1]; simp [hB]
  have hx1 : w1.heap[B]? = some (.cells #[.slice A n c] 25 (0, 0)) := by rw [← hw1, ← hB]; exact heap_alloc_new _ _
  have CK := Lib.hid (fun V (hV : Below w.heap.size w V) => rchkI_any A n c l V (hl.below hV) hz hn)
  have HL := Lib.hid hl
  have HLN := Lib.hid hln
  have HW1 := Lib.hid hw1
  have HB1 := Lib.hid hb1
  have HX1 := Lib.hid hx1
  have HBE := Lib.hid hB
  clear hl hw1 hb1 hx1 hln hz
  rw [hB] at CK ⊢
  go_enter Try.func17, Try.ntmps17
  go_wp2_with fail
  rw [HW1.out]
  clear hB
  have g3 : w1.cell? ⟨B, 0, none⟩ = some (.slice A n c) := by have := HX1.out; simp [World.cell?, this]
  rcases Im.chk_is l with hc | hc
  · rw [hc] at CK
    have HOK := Lib.hid (Im.chk_zero hc)
    have HF := Lib.hid (show Im.tot l = (Im.once l, Im.all l, 0) by unfold Im.tot; rw [if_neg (by simp [hc])])
    clear hc
    go_wp2_with (first | (go_at_call 19; with_reducible refine (CK.out _ HB1.out).mono ?_; rintro e w2 ⟨rfl, hb2⟩; have HB2 := Lib.hid (show Below B w w2 from HB1.out.trans (hb2.mono (by omega))); have g5 := (hb2.cell (p := ⟨B, 0, none⟩) (by show B < _; omega)).trans g3; have hs2 := hb2.size; clear hb2) | fail)
    have HB2' := Lib.hid (show Below (B + 1) w2 w2 from Below.refl _ _)
    have hs1' : B + 1 ≤ w2.heap.size := by omega
    go_loopw [5, 6, 15] (fun u v i wr => ∃ k : Nat, k ≤ n ∧ i = .int .i64 k ∧ u = .int .i64 (Im.once (l.take k)) ∧ v = .int .i64 (Im.all (l.take k)) ∧ 0 ≤ Im.once (l.take k) ∧ Im.once (l.take k) ≤ k * 16384 ∧ 0 ≤ Im.all (l.take k) ∧ Im.all (l.take k) ≤ k * 35184372064256 ∧ Below (B + 1) w2 wr) (fun u v i _ => n - (intOf i).toNat)
    case atStart => exact ⟨0, by omega, rfl, by simp [Im.once], by simp [Im.all], by simp [Im.once], by simp [Im.once], by simp [Im.all], by simp [Im.all], Below.refl _ _⟩
    case round =>
      obtain ⟨k, hk, rfl, rfl, rfl, ho0, ho1, ha0, ha1, hBr⟩ := hrel
      have hsz := hBr.size
      have HBr := Lib.hid hBr
      obtain ⟨O, hO⟩ : ∃ O, Im.once (l.take k) = O := ⟨_, rfl⟩
      obtain ⟨L, hL⟩ : ∃ L, Im.all (l.take k) = L := ⟨_, rfl⟩
      rw [hO] at ho0 ho1
      rw [hL] at ha0 ha1
      rw [hO, hL]
      have HO := Lib.hid hO
      have HLL := Lib.hid hL
      by_cases hlt : k < n
      · have d8 : decide ((k : Int) < (n : Int)) = true := by simp; omega
        obtain ⟨g, o, rfl, hg, hzl, y0, y1, y2⟩ := HL.out.at hlt
        rw [HBE.out] at hg
        have hBw : Below B w wr := HB2.out.trans (hBr.mono (by omega))
        have z0 := (hBw.cell (p := ⟨g, o + k * 3, none⟩) hg).trans y0
        have z1 := (hBw.cell (p := ⟨g, o + k * 3 + 1, none⟩) hg).trans y1
        have z2 := (hBw.cell (p := ⟨g, o + k * 3 + 2, none⟩) hg).trans y2
        have hkl : k < l.length := by rw [HLN.out]; exact hlt
        obtain ⟨x, hx⟩ : ∃ x, l[k] = x := ⟨_, rfl⟩
        have hkn : k ≤ 1024 := by have := HOK.out.1; have := HLN.out; omega
        obtain ⟨q1, _, q3, q4⟩ := HOK.out.2.1 _ (List.getElem_mem hkl)
        rw [hx] at z0 z1 z2 q1 q3 q4
        have ht : l.take (k + 1) = l.take k ++ [x] := by rw [← hx]; exact (List.take_append_getElem hkl).symm
        have hO1 := Im.once_snoc (l.take k) x
        have hL1 := Im.all_snoc (l.take k) x
        rw [← ht] at hO1 hL1
        rw [hO] at hO1
        rw [hL] at hL1
        obtain ⟨a, ct, s⟩ := x
        simp only at z0 z1 z2 q1 q3 q4 hO1 hL1
        obtain ⟨m0, m1⟩ := Im.mul_bound q1 q3 q4
        obtain ⟨S, hS⟩ : ∃ S, Cm.b s = S := ⟨_, rfl⟩
        have hSs : S.size = s.length := by rw [← hS, Cm.b_size']
        rw [hS] at z2
        rw [← hSs] at q1 m0 m1 hO1 hL1
        obtain ⟨M, hM⟩ : ∃ M, (S.size : Int) * ct = M := ⟨_, rfl⟩
        have e1 : IntKind.i64.wrap ((S.size : Int) * ct) = M := by rw [hM]; exact IntWalk.i64_in _ (by rw [hM] at m0 m1; omega)
        rw [hM] at m0 m1 hL1
        have e2 : IntKind.i64.wrap (L + M) = L + M := IntWalk.i64_in _ (by omega)
        have e3 : IntKind.i64.wrap (O + S.size) = O + S.size := IntWalk.i64_in _ (by omega)
        obtain ⟨nb, hnb⟩ : ∃ nb, wr.heap.size = nb := ⟨_, rfl⟩
        obtain ⟨wa, hwa⟩ : ∃ V, wr.alloc (.cells #[.int .i64 a, .int .i64 ct, .string S] 37) = V := ⟨_, rfl⟩
        have hna : wa.heap[nb]? = some (.cells #[.int .i64 a, .int .i64 ct, .string S] 37 (0, 0)) := by rw [← hwa, ← hnb]; exact heap_alloc_new _ _
        have hBa : Below (B + 1) w2 wa := by rw [← hwa]; exact hBr.alloc (by omega) _
        have g1 : wa.cell? ⟨nb, 1, none⟩ = some (.int .i64 ct) := by simp [World.cell?, hna]
        have g2 : wa.cell? ⟨nb, 2, none⟩ = some (.string S) := by simp [World.cell?, hna]
        have HREL := Lib.hid (show Im.once (l.take (k + 1)) = O + S.size ∧ Im.all (l.take (k + 1)) = L + M ∧ 0 ≤ O + S.size ∧ O + S.size ≤ (k + 1) * 16384 ∧ 0 ≤ L + M ∧ L + M ≤ (k + 1) * 35184372064256 from ⟨hO1, hL1, by omega, by omega, by omega, by omega⟩)
        have HWA := Lib.hid hwa
        have HBA := Lib.hid hBa
        clear hwa hBa hBr hBw y0 y1 y2 hx hS hna hzl hg hO hL hO1 hL1 ht hSs hM m0 m1 q1 q3 q4 ho0 ho1 ha0 ha1
        go_wp2_with fail
        rw [HWA.out]
        go_wp2_with fail
        go_region
        go_wp2_with fail
        obtain ⟨r1, r2, r3, r4, r5, r6⟩ := HREL.out
        refine ⟨⟨k + 1, by omega, by go_num, by rw [r1], by rw [r2], by rw [r1]; exact r3, by rw [r1]; exact r4, by rw [r2]; exact r5, by rw [r2]; exact r6, HBA.out.drew⟩, ?_⟩
        simp [intOf]; omega
      · obtain rfl : k = n := by omega
        have d8 : decide ((k : Int) < (k : Int)) = false := by simp
        have HT := Lib.hid (show l.take k = l from by rw [← HLN.out, List.take_length])
        clear hBr
        go_wp2_with fail
        exact bodyPost_ret (v := .tuple #[.int .i64 O, .int .i64 L, .int .i64 0]) (by simp [results, Try.results17, go_sem]) rfl ⟨by rw [HF.out, ← HO.out, ← HLL.out, HT.out], HB2.out.trans (HBr.out.mono (by omega))⟩
  · rw [hc] at CK
    have HF := Lib.hid (show Im.tot l = (0, 0, 2) by unfold Im.tot; rw [if_pos (by rw [hc]; decide)])
    clear hc
    go_wp2_with (first | (go_at_call 19; with_reducible refine (CK.out _ HB1.out).mono ?_; rintro e w2 ⟨rfl, hb2⟩; have HB2 := Lib.hid (show Below B w w2 from HB1.out.trans (hb2.mono (by omega)))) | fail)
    exact bodyPost_ret (v := .tuple #[.int .i64 0, .int .i64 0, .int .i64 2]) (by simp [results, Try.results17, go_sem]) rfl ⟨by rw [HF.out], HB2.out⟩

end Go.Proofs.Ytmdakplaaehmnaa
