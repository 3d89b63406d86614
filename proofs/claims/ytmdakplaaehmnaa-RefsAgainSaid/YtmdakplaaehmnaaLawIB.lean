/-
  RefsAgain: its walk.
-/
import Derived.Test.YtmdakplaaehmnaaLawIA
namespace Go.Proofs.Ytmdakplaaehmnaa
open Go.RowKit
set_option maxHeartbeats 2000000

set_option maxRecDepth 100000 in
theorem refsAgain_walk (H : RefsSays) (T : ByteArray) (m : Nat) (w : World) (hm : m < 256) :
    Calls Try.prog 6 #[.string T, .int .u8 m] w fun e w' => e = .returned (.bool true) ∧ Below w.heap.size w w' := by
  have HS := Lib.hid (fun V => saneI_any H V)
  by_cases hbig : 2000 < T.size
  · have d1 : decide ((2000 : Int) < (T.size : Int)) = true := by simp; omega
    clear H
    go_enter Try.func6, Try.ntmps6
    go_wp2_with fail
    refine (HS.out _).mono ?_
    rintro e w1 ⟨rfl, hb1⟩
    have HB1 := Lib.hid hb1
    clear hb1
    go_wp2_with fail
    go_ret
    exact ⟨rfl, HB1.out⟩
  have d1 : decide ((2000 : Int) < (T.size : Int)) = false := by simp; omega
  obtain ⟨s, hs⟩ : ∃ s, T.data.toList = s := ⟨_, rfl⟩
  have hsl : T.size = s.length := by rw [← hs]; exact Array.length_toList.symm
  obtain ⟨D, hD⟩ : ∃ D, Dm.sum s = D := ⟨_, rfl⟩
  have hl4 : s.length ≤ 16384 := by omega
  have KS := Lib.hid (fun V => sum_any T V (by unfold maxLen; omega))
  rw [hs, hD] at KS
  have K1 := Lib.hid (fun V => H.add none 0 0 [] T V (.nil V) (by omega))
  rw [hs, Im.add_nil hl4] at K1
  have K2 := Lib.hid (fun A n c V (k : Int) (h0 : 1 ≤ k) (h1 : k < 2147483646) (h : Im.Arg V A n c (Im.one k s)) => by
    have h := H.add A n c _ T V h (by omega)
    rw [hs, Im.add_one hl4 h0 h1] at h
    exact h)
  have K4 := Lib.hid (fun A n c V (k : Int) (h0 : 1 ≤ k) (h1 : k < 2147483647) (h : Im.Arg V A n c (Im.one k s)) => by
    have h := H.get A n c _ (Dm.sum s) V h
    rw [Im.get_one hl4 h0 h1, hD] at h
    simp only at h
    rw [show Cm.b s = T by rw [← hs, Cm.b_of]] at h
    exact h)
  obtain ⟨D', hD'⟩ : ∃ D', Dm.sum (s ++ [120]) = D' := ⟨_, rfl⟩
  have KT := Lib.hid (fun V => sum_any (T ++ { data := #[120] }) V (by rw [show (T ++ { data := #[120] } : ByteArray).size = T.size + 1 by simp; rfl]; unfold maxLen; omega))
  rw [show (T ++ { data := #[120] } : ByteArray).data.toList = s ++ [120] by rw [← hs]; simp, hD'] at KT
  have HO := Lib.hid (fun k => (⟨by simp [Im.one], fun x hx => by simp only [Im.one, List.mem_singleton] at hx; subst hx; simp only; omega⟩ : (Im.one k s).length ≤ 4096 ∧ ∀ x ∈ Im.one k s, x.2.2.length ≤ 100000))
  have KC := Lib.hid H.check
  have HD := Lib.hid hD
  have HDP := Lib.hid hD'
  have HSE := Lib.hid hs
  have HSL := Lib.hid hsl
  clear H hs hD hD' hsl
  go_enter Try.func6, Try.ntmps6
  go_wp2_with fail
  refine (HS.out _).mono ?_
  rintro e w1 ⟨rfl, hb1⟩
  have HB1 := Lib.hid hb1
  clear hb1
  go_wp2_with fail
  refine (K1.out _).mono ?_
  rintro e w2 ⟨v2, rfl, ho2, hb2⟩
  obtain ⟨A2, c2, rfl, ha2⟩ := ho2.arg (HO.out _).1 (HO.out _).2
  have hB2 : Below w.heap.size w w2 := HB1.out.trans (hb2.mono HB1.out.size)
  obtain ⟨b, hb⟩ : ∃ b, w2.heap.size = b := ⟨_, rfl⟩
  have hwb0 : w.heap.size ≤ b := by rw [← hb]; exact hB2.size
  obtain ⟨n2, hn2⟩ : ∃ n, (Im.one 1 s).length = n := ⟨_, rfl⟩
  rw [hn2] at ha2
  rw [hn2]
  obtain ⟨wa, hwa⟩ : ∃ V, w2.alloc (.cells #[.slice A2 n2 c2] 25) = V := ⟨_, rfl⟩
  have haa : Im.Arg wa A2 n2 c2 (Im.one 1 s) := by rw [← hwa]; exact ha2.below ((Below.refl _ _).alloc (Nat.le_refl _) _)
  have hxa : wa.heap[b]? = some (.cells #[.slice A2 n2 c2] 25 (0, 0)) := by rw [← hwa, ← hb]; exact heap_alloc_new _ _
  have hba : Below w.heap.size w wa := by rw [← hwa]; exact hB2.alloc hB2.size _
  have hsa : wa.heap.size = b + 1 := by rw [← hwa]; simp [hb]
  have HWA := Lib.hid hwa
  have HAA := Lib.hid haa
  have HXA := Lib.hid hxa
  have HBA := Lib.hid hba
  obtain ⟨q, hq⟩ : ∃ q, m % 5 = q := ⟨_, rfl⟩
  have hq5 : q < 5 := by omega
  have hqm : (m : Int) % 5 = (q : Int) := by omega
  have HQM := Lib.hid hqm
  clear hb2 ho2 ha2 hB2 hwa haa hxa hba hn2 hqm hq
  go_wp2_with fail
  rw [HWA.out, HQM.out]
  go_loopw [30] (fun i wr => ∃ (j : Nat) (A : Option Addr) (n c : Nat), j ≤ q ∧ i = .int .u8 j ∧ Im.Arg wr A n c (Im.one (1 + j) s) ∧ wr.heap[b]? = some (.cells #[.slice A n c] 25 (0, 0)) ∧ Below w.heap.size w wr ∧ b < wr.heap.size) (fun i _ => q - (intOf i).toNat)
  case atStart => exact ⟨0, A2, n2, c2, by omega, rfl, HAA.out, HXA.out, HBA.out, by omega⟩
  case round =>
    obtain ⟨j, A, n, c, hj, rfl, hai, hxi, hbi, hbl⟩ := hrel
    obtain ⟨ti, fi⟩ := cell_frozen_one hxi
    have HAI := Lib.hid hai
    have HXI := Lib.hid hxi
    have HBI := Lib.hid hbi
    clear hai hxi hbi
    by_cases hlt : j < q
    · have d8 : decide ((j : Int) < (q : Int)) = true := by simp; omega
      have ew : IntKind.u8.wrap ((j : Int) + 1) = (j : Int) + 1 := by rw [IntKind.wrap_u8]; omega
      go_wp2_with fail
      refine (K2.out _ _ _ _ (1 + (j : Int)) (by omega) (by omega) HAI.out).mono ?_
      rintro e w3 ⟨v3, rfl, ho3, hb3⟩
      obtain ⟨A3, c3, rfl, ha3⟩ := ho3.arg (HO.out _).1 (HO.out _).2
      obtain ⟨n3, hn3⟩ : ∃ n, (Im.one (1 + (j : Int) + 1) s).length = n := ⟨_, rfl⟩
      rw [hn3] at ha3 ho3
      rw [hn3]
      have hs3 := hb3.size
      have hx3 := (hb3.block b hbl).trans HXI.out
      have hB3 : Below w.heap.size w w3 := HBI.out.trans (hb3.mono HBI.out.size)
      have hxd : (w3.alloc (.cells #[.slice A3 n3 c3] 25)).heap[b]? = some (.cells #[.slice A n c] 25 (0, 0)) := (Below.heap_alloc _ _ _ (by omega)).trans hx3
      obtain ⟨td, fd⟩ := cell_frozen_one hxd
      have hyd : (w3.alloc (.cells #[.slice A3 n3 c3] 25)).heap[w3.heap.size]? = some (.cells #[.slice A3 n3 c3] 25 (0, 0)) := heap_alloc_new _ _
      obtain ⟨ty, fy⟩ := cell_frozen_one hyd
      have hrd : Im.Arg ((w3.alloc (.cells #[.slice A3 n3 c3] 25)).setCell ⟨b, 0, none⟩ (.slice A3 n3 c3)) A3 n3 c3 (Im.one (1 + (j : Int) + 1) s) := by
        obtain ⟨A', c', hv, hr⟩ := ((ho3.alloc (.cells #[.slice A3 n3 c3] 25)).setCell (a := ⟨b, 0, none⟩) hbl (.slice A3 n3 c3)).arg (HO.out _).1 (HO.out _).2
        rw [hn3] at hv hr
        injection hv with e1 e2 e3
        subst e1 e3
        exact hr
      have HRD := Lib.hid hrd
      have HXD := Lib.hid (one_set (v := .slice A3 n3 c3) hxd)
      have HBD := Lib.hid (show Below w.heap.size w ((w3.alloc (.cells #[.slice A3 n3 c3] 25)).setCell ⟨b, 0, none⟩ (.slice A3 n3 c3)) from (hB3.alloc hB3.size _).setCell hwb0 _)
      clear hb3 ho3 ha3 hx3 hB3 hxd hyd hrd hn3
      go_wp2_with fail
      go_roundw
      case rel => exact ⟨j + 1, A3, n3, c3, by omega, by simp, by rw [show 1 + ((j + 1 : Nat) : Int) = 1 + (j : Int) + 1 by omega]; exact HRD.out, HXD.out, HBD.out, by simp [World.setCell]; omega⟩
      case measure => simp [intOf]; omega
    · obtain rfl : j = q := by omega
      have d8 : decide ((j : Int) < (j : Int)) = false := by simp
      go_wp2_with (first | (go_at_call 13; with_reducible refine (KS.out _).mono ?_; rintro e w3 ⟨rfl, rfl⟩) | fail)
      refine (K4.out _ _ _ _ (1 + (j : Int)) (by omega) (by omega) HAI.out).mono ?_
      rintro e w3 ⟨rfl, hb3⟩
      have HB3 := Lib.hid (HBI.out.trans (hb3.mono HBI.out.size))
      clear hb3
      have y1 : IntKind.i64.wrap (1 + (j : Int)) = 1 + (j : Int) := by rw [IntKind.wrap_i64]; omega
      have y2 : IntKind.i64.wrap (j : Int) = (j : Int) := by rw [IntKind.wrap_i64]; omega
      have hsz3 := HB3.out.size
      have hqm := HQM.out
      by_cases hDD : D' = D
      · have e1 : (D' == D) = true := by simpa using hDD
        go_wp2_with fail
        refine (KT.out _).mono ?_
        rintro e w4 ⟨rfl, rfl⟩
        go_wp2_with fail
        go_ret
        exact ⟨rfl, (HB3.out.alloc hsz3 _).alloc (by simp; omega) _⟩
      · have e1 : (D' == D) = false := beq_eq_false_iff_ne.2 hDD
        have harg : Im.Arg ((w3.alloc (.cells #[.int .i64 D, .int .i64 1, .string (T ++ { data := #[120] })] 37)).alloc (.cells #[.slice (some ⟨w3.heap.size, 0, none⟩) 1 1] 25)) (some ⟨w3.heap.size, 0, none⟩) 1 1 [(D, 1, s ++ [120])] := by
          have hb : Cm.b (s ++ [120]) = T ++ { data := #[120] } := bytes_ext (by rw [Cm.b_list, ← HSE.out]; simp)
          refine ⟨⟨rfl, Nat.le_refl _, fun _ => ⟨w3.heap.size, 0, rfl, (by simp; omega), fun i hi => ?_⟩⟩, (fun h => by injection h), by omega, fun x hx => ?_⟩
          · obtain rfl : i = 0 := by simp at hi; omega
            have e : ∀ q, ((w3.alloc (.cells #[.int .i64 D, .int .i64 1, .string (T ++ { data := #[120] })] 37)).alloc (.cells #[.slice (some ⟨w3.heap.size, 0, none⟩) 1 1] 25)).cell? ⟨w3.heap.size, q, none⟩ = (w3.alloc (.cells #[.int .i64 D, .int .i64 1, .string (T ++ { data := #[120] })] 37)).cell? ⟨w3.heap.size, q, none⟩ := fun q => World.cell?_alloc_lt _ _ _ (by simp)
            rw [e, e, e, cell_new_at _ _ _ _ rfl, cell_new_at _ _ _ _ rfl, cell_new_at _ _ _ _ rfl]
            simp only [List.getElem_cons_zero, hb]
            exact ⟨rfl, rfl, rfl⟩
          · simp only [List.mem_singleton] at hx
            subst hx
            have := HSL.out
            simp only [List.length_append, List.length_singleton]
            omega
        have hchk : Im.chk [(D, 1, s ++ [120])] = 2 := Im.chk_bad (i := 0) (by simp) (by simp only [List.getElem_cons_zero]; unfold Im.okR; simp only [decide_eq_false_iff_not]; rw [HDP.out]; intro h; exact hDD h.2.1.symm)
        have KC1 := Lib.hid (KC.out _ _ _ _ _ harg)
        rw [hchk] at KC1
        clear harg hchk
        go_wp2_with fail
        refine (KT.out _).mono ?_
        rintro e w4 ⟨rfl, rfl⟩
        go_wp2_with fail
        refine KC1.out.mono ?_
        rintro e w5 ⟨rfl, hb5⟩
        have HB5 := Lib.hid (show Below w.heap.size w w5 from ((HB3.out.alloc hsz3 _).alloc (by simp; omega) _).trans (hb5.mono (by simp; omega)))
        clear hb5
        go_wp2_with fail
        go_ret
        exact ⟨rfl, HB5.out⟩

end Go.Proofs.Ytmdakplaaehmnaa
