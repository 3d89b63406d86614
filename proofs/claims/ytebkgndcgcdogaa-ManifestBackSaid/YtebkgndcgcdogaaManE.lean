/-
  Contract of manifest: Encode.
-/
import Derived.Test.YtebkgndcgcdogaaManA
import Derived.Test.YtebkgndcgcdogaaVg
namespace Go.Proofs.Ytebkgndcgcdogaa
open Go.RowKit
set_option maxHeartbeats 2000000

set_option maxRecDepth 100000 in
theorem menc_any (num : Int) (A : Option Addr) (n c : Nat) (l : List Vm.Nm) (w : World) (hl : NamesIn w A n c l) (hn : n ≤ 17592186044416) :
    Calls Try.prog 32 #[.agg #[.int .i64 num, .slice A n c]] w fun e w' => e = .returned (.tuple #[Wm.str (Vm.enc num l).1, .int .i64 (Vm.enc num l).2]) ∧ Below w.heap.size w w' := by
  have C1 := Lib.hid (fun V h => mchk_any num A n c l V h hn)
  obtain ⟨B, hB⟩ : ∃ B, w.heap.size = B := ⟨_, rfl⟩
  obtain ⟨w1, hw1⟩ : ∃ V, w.alloc (.cells #[.int .i64 num, .slice A n c] 25) = V := ⟨_, rfl⟩
  have hb1 : Below B w w1 := by rw [← hw1, ← hB]; exact (Below.refl _ _).alloc (Nat.le_refl _) _
  have hs1 : w1.heap.size = B + 1 := by rw [← hw1]; simp [hB]
  have va : VB B num (.slice A n c) w1 := by
    rw [← hw1, ← hB]
    exact heap_alloc_new _ _
  have HL := Lib.hid (hl.below (hb1.mono (by omega)))
  have HL0 := Lib.hid hl
  have HW1 := Lib.hid hw1
  have HVA := Lib.hid va
  have HB1 := Lib.hid hb1
  have HBB := Lib.hid hB
  have hla := hl.1
  have r0 := va.c0
  have r1 := va.c1
  clear hl hw1 va hb1
  by_cases h1 : Vm.chk num l = 0
  · have hla2 : n ≤ 256 := by rw [← hla]; exact (Vm.chk_zero h1).2.2.1
    have hnum : 1 ≤ num ∧ num < 2147483647 := ⟨(Vm.chk_zero h1).1, (Vm.chk_zero h1).2.1⟩
    have hsz : ∀ x ∈ l, 0 ≤ x.1 ∧ x.1 < 2147483647 ∧ 1 ≤ x.2 ∧ x.2 ≤ 256 := (Vm.chk_zero h1).2.2.2
    have HF := Lib.hid (show Vm.enc num l = (Wm.encI num ++ Wm.encL (Vm.flat l), 0) by unfold Vm.enc; rw [if_pos h1])
    obtain ⟨i0, hi, hz0, hz1, hz2⟩ := info_parts info_int
    rw [h1] at C1
    have HSZ := Lib.hid hsz
    clear h1 hsz
    go_enter Try.func32, Try.ntmps32
    go_wp2_with fail
    rw [HW1.out]
    go_wp2_with fail
    refine (C1.out _ HL.out).mono ?_
    rintro e w2 ⟨rfl, hb2⟩
    have hv2 := HVA.out.below hb2 (by omega)
    have q0 := hv2.c0
    have q1 := hv2.c1
    have hs2 := hb2.size
    have HV2 := Lib.hid hv2
    have HB2 := Lib.hid (show Below (B + 1) w1 w2 from hb2.mono (by omega))
    clear hb2 hv2 r0 r1
    go_wp2_with fail
    go_loopw [5, 16] (fun u i wr => ∃ k : Nat, k ≤ n ∧ i = .int .i64 k ∧ wr.ownsRow (B + 1) 3 1 u (Vm.flat (l.take k)).length ((Vm.flat (l.take k)).map (Value.int .i64)) ∧ Below (B + 1) w1 wr) (fun u i wr => n - (intOf i).toNat)
    case atStart => exact ⟨0, by omega, rfl, World.ownsRow_nil _ _ _ _, HB2.out⟩
    case round =>
      obtain ⟨k, hk, rfl, hrow, hBr⟩ := hrel
      have hsz := hBr.size
      by_cases hlt : k < n
      · have d8 : decide ((k : Int) < (n : Int)) = true := by simp; omega
        obtain ⟨g, q, rfl, hg, hz', y0, y1⟩ := HL0.out.at hlt
        have hBw : Below B w wr := HB1.out.trans (hBr.mono (by omega))
        have z0 := (hBw.cell (p := ⟨g, q + k * 2, none⟩) (by rw [← HBB.out]; exact hg)).trans y0
        have z1 := (hBw.cell (p := ⟨g, q + k * 2 + 1, none⟩) (by rw [← HBB.out]; exact hg)).trans y1
        obtain ⟨x, hx⟩ : ∃ x, l[k] = x := ⟨_, rfl⟩
        rw [hx] at z0 z1
        have hfl : Vm.flat (l.take (k + 1)) = Vm.flat (l.take k) ++ [x.1, x.2] := by rw [List.take_succ_eq_append_getElem hz', Vm.flat_snoc, hx]
        have hfn : (Vm.flat (l.take k)).length = 2 * k := by rw [Vm.flat_length, List.length_take]; omega
        obtain ⟨x0, x1⟩ := x
        simp only at z0 z1 hfl
        obtain ⟨P, hP⟩ : ∃ P, Vm.flat (l.take k) = P := ⟨_, rfl⟩
        rw [hP] at hfl hfn hrow
        have HFL := Lib.hid hfl
        have HFN := Lib.hid hfn
        have HROW := Lib.hid hrow
        have HBR := Lib.hid hBr
        have HRL := Lib.hid (fun b' (hb' : u5.ownBlock = some b') => World.ownsRow.lt hrow b' hb')
        obtain ⟨wo, hwo⟩ : ∃ wo : World, wo = wr := ⟨_, rfl⟩
        have hfn2 := hfn
        clear y0 y1 hz' hx hfl hP hrow hBr hg hBw hfn hwo wo
        go_wp2_with (at_builtin; refine wpList_append_own _ rfl _ _ 22 rfl (B + 1) 3 i0 (.int .i64 0) 1 8 Try.underlying22 hi hz0 hz1 hz2 rfl (by decide) _ _ _ rfl ((HROW.out.alloc _).alloc _) ⟨wr.heap.size + 1, 0, none⟩ 2 2 [.int .i64 x0, .int .i64 x1] rfl rfl (cell_two_at _ _ _ _ _ (by simp)) (by simp [Value.oneCell']) (by unfold maxLen; omega) (by omega) (by simp; omega) ?_; intro v' w5 hown' hgrow _; have HO := Lib.hid hown'; have HG := Lib.hid hgrow; clear hown' hgrow)
        have HB5 := Lib.hid (show Below (B + 1) w1 w5 from ((HBR.out.alloc (by omega) _).alloc (by simp; omega) _).grown HG.out (by simp; omega) (fun b hb => (HRL.out b hb).1))
        go_roundw
        case rel => exact ⟨k + 1, by omega, by go_num, by rw [HFL.out, List.length_append, List.map_append]; exact HO.out, HB5.out⟩
        case measure => simp [intOf]; omega
      · obtain rfl : k = n := by omega
        have d8 : decide ((k : Int) < (k : Int)) = false := by simp
        rw [List.take_of_length_le (by rw [hla]; exact Nat.le_refl _)] at hrow
        have hv := HVA.out.below hBr (by omega)
        have q0' := hv.c0
        have hfn : (Vm.flat l).length = 2 * k := by rw [Vm.flat_length, hla]
        rw [hfn] at hrow
        obtain ⟨A2, c2, rfl, hii⟩ := own_intsIn hrow (fun y hy => by
          unfold Vm.flat at hy
          obtain ⟨x, hx, hy⟩ := List.mem_flatMap.1 hy
          obtain ⟨h0, h1, h2, h3⟩ := HSZ.out x hx
          simp only [List.mem_cons, List.not_mem_nil, or_false] at hy
          rcases hy with rfl | rfl <;> omega)
        have HII := Lib.hid hii
        have HBR := Lib.hid hBr
        clear hii hrow hBr hv q0 q1
        have hEl := (Wm.encI_length num).2
        obtain ⟨E, hE1, hE2, hE3⟩ : ∃ E : ByteArray, E = ⟨(Wm.encI num).toArray⟩ ∧ E.size ≤ 10 ∧ E.data.toList = Wm.encI num := ⟨_, rfl, by show Array.size _ ≤ _; simpa using hEl, by simp⟩
        have P1 := Lib.hid (fun V => (by
          have h := put_any ⟨#[]⟩ num V (by show (0 : Nat) ≤ _; omega) (by omega) (by omega)
          rw [show Wm.str ((⟨#[]⟩ : ByteArray).data.toList ++ Wm.encI num) = .string E by rw [hE1]; rfl] at h
          exact h : Calls Try.prog 60 #[.string ⟨#[]⟩, .int .i64 num] V fun e w' => e = .returned (.string E) ∧ Below V.heap.size V w'))
        have P2 := Lib.hid (fun V h => (by
          have h := putList_any E A2 (2 * k) c2 (Vm.flat l) V (by omega) h (by omega)
          rw [hE3] at h
          exact h : Calls Try.prog 59 #[.string E, .slice A2 (2 * k) c2] V fun e w' => e = .returned (Wm.str (Wm.encI num ++ Wm.encL (Vm.flat l))) ∧ Below V.heap.size V w'))
        clear hE1 hE2 hE3 hEl
        go_wp2_with fail
        refine (P1.out _).mono ?_
        rintro e w6 ⟨rfl, hb6⟩
        have HI6 := Lib.hid (HII.out.below hb6)
        have HB6 := Lib.hid (HBR.out.trans (hb6.mono (by omega)))
        have hs6 := hb6.size
        clear hb6
        go_wp2_with fail
        refine (P2.out _ HI6.out).mono ?_
        rintro e w7 ⟨rfl, hb7⟩
        have HB7 := Lib.hid ((HB1.out.trans (HB6.out.mono (by omega))).trans (hb7.mono (by omega)))
        clear hb7
        go_wp2_with fail
        go_ret2
        exact ⟨by rw [HF.out]; rfl, HB7.out.mono (by rw [HBB.out]; exact Nat.le_refl _)⟩
  · have HF := Lib.hid (show Vm.enc num l = ([], Vm.chk num l) by unfold Vm.enc; rw [if_neg h1])
    have g0 : (Vm.chk num l == 0) = false := beq_eq_false_iff_ne.2 h1
    have g1 : (Vm.chk num l != 0) = true := by simpa using h1
    obtain ⟨x, hx⟩ : ∃ x, Vm.chk num l = x := ⟨_, rfl⟩
    rw [hx] at C1 HF g0 g1
    clear h1 hx hla
    go_enter Try.func32, Try.ntmps32
    go_wp2_with fail
    rw [HW1.out]
    go_wp2_with fail
    refine (C1.out _ HL.out).mono ?_
    rintro e w2 ⟨rfl, hb2⟩
    have HB2 := Lib.hid (HB1.out.trans (hb2.mono (by omega)))
    clear hb2
    go_wp2_with fail
    go_ret2
    exact ⟨by rw [HF.out]; rfl, HB2.out.mono (by rw [HBB.out]; exact Nat.le_refl _)⟩

end Go.Proofs.Ytebkgndcgcdogaa
