/-
  ManifestBytes: its walk.
-/
import Derived.Test.YtebkgndcgcdogaaLawVK
import Derived.Deep.RegionHeld3
import Derived.Deep.DrawnRows
namespace Go.Proofs.Ytebkgndcgcdogaa
open Go.RowKit
set_option maxHeartbeats 4000000

theorem Vm.dec_len (s : List UInt8) : (Vm.dec s).2.1.length ≤ 256 := by
  unfold Vm.dec
  split
  · split
    · split
      · split
        · rename_i h; exact (Vm.chk_zero h).2.2.1
        · simp
      · simp
    · simp
  · simp

set_option maxRecDepth 100000 in
theorem manifestBytes_walk (A : Option Addr) (n c : Nat) (z : List Int) (rn : Int) (Ar : Option Addr) (nr cr : Nat) (lr : List Vm.Nm) (S : ByteArray) (at_ by_ : Int) (w : World) (hz : IntsIn .i64 w A n c z) (hc : c * Try.prog.bytesOf 3 ≤ 140737488351232)
    (hl : NamesIn w Ar nr cr lr) (hcr : cr * Try.prog.bytesOf 59 ≤ 140737488351232) (hS : S.size ≤ 140737488351232) (ha0 : 0 ≤ at_) (ha1 : at_ ≤ 255) (hb0 : 0 ≤ by_) (hb1 : by_ ≤ 255) :
    Calls Try.prog 4 #[.slice A n c, .agg #[.int .i64 rn, .slice Ar nr cr], .string S, .int .u8 at_, .int .u8 by_] w fun e w' => e = .returned (.bool true) ∧ Below w.heap.size w w' := by
  have hb8 : Try.prog.bytesOf 3 = 8 := by kernel_rfl
  have hb16 : Try.prog.bytesOf 59 = 16 := by kernel_rfl
  rw [hb8] at hc
  rw [hb16] at hcr
  have hnc := hz.2.1
  have hncr := hl.2.1
  have hn : n ≤ 17592186044416 := by omega
  have hnr : nr ≤ 17592186044416 := by omega
  clear hb8 hc hnc hb16 hcr hncr
  have F1 := Lib.hid (fun V => few_any A n c V (by omega))
  obtain ⟨B, hB⟩ : ∃ B, w.heap.size = B := ⟨_, rfl⟩
  obtain ⟨wr0, hwr0⟩ : ∃ V, w.alloc (.cells #[.int .i64 rn, .slice Ar nr cr] 25) = V := ⟨_, rfl⟩
  have hbw : Below B w wr0 := by rw [← hwr0, ← hB]; exact (Below.refl _ _).alloc (Nat.le_refl _) _
  have hsw : wr0.heap.size = B + 1 := by rw [← hwr0]; simp [hB]
  have hvr : VB B rn (.slice Ar nr cr) wr0 := by rw [← hwr0, ← hB]; exact heap_alloc_new _ _
  have HWR := Lib.hid hwr0
  have HBW := Lib.hid hbw
  have HVR := Lib.hid hvr
  have HBB := Lib.hid hB
  have hzr : IntsIn .i64 wr0 A n c z := hz.below (by rw [hB]; exact hbw)
  have HLR := Lib.hid (hl.below (by rw [hB]; exact hbw))
  clear hwr0 hbw hvr hz hl
  by_cases h500 : 500 < n
  · have d1 : decide ((n : Int) ≤ 500) = false := by simp; omega
    go_enter Try.func4, Try.ntmps4
    go_wp2_with fail
    rw [HWR.out]
    refine (vsane_any _).mono ?_
    rintro e w1 ⟨rfl, hB1⟩
    have hv := HVR.out.below hB1 (by omega)
    have q1 := hv.c1
    go_wp2_with fail
    refine (F1.out _).mono ?_
    rintro e w2 ⟨rfl, rfl⟩
    go_wp2_with fail
    go_ret
    exact ⟨rfl, (HBW.out.trans (hB1.mono (by omega))).mono (by rw [HBB.out]; exact Nat.le_refl _)⟩
  have d1 : decide ((n : Int) ≤ 500) = true := by simp; omega
  by_cases h600 : 600 < nr
  · have d2 : decide ((600 : Int) < (nr : Int)) = true := by simp; omega
    go_enter Try.func4, Try.ntmps4
    go_wp2_with fail
    rw [HWR.out]
    refine (vsane_any _).mono ?_
    rintro e w1 ⟨rfl, hB1⟩
    have hv := HVR.out.below hB1 (by omega)
    have q1 := hv.c1
    go_wp2_with fail
    refine (F1.out _).mono ?_
    rintro e w2 ⟨rfl, rfl⟩
    go_wp2_with fail
    go_ret
    exact ⟨rfl, (HBW.out.trans (hB1.mono (by omega))).mono (by rw [HBB.out]; exact Nat.le_refl _)⟩
  have d2 : decide ((600 : Int) < (nr : Int)) = false := by simp; omega
  by_cases h3000 : 3000 < S.size
  · have d3 : decide ((3000 : Int) < (S.size : Int)) = true := by simp; omega
    go_enter Try.func4, Try.ntmps4
    go_wp2_with fail
    rw [HWR.out]
    refine (vsane_any _).mono ?_
    rintro e w1 ⟨rfl, hB1⟩
    have hv := HVR.out.below hB1 (by omega)
    have q1 := hv.c1
    go_wp2_with fail
    refine (F1.out _).mono ?_
    rintro e w2 ⟨rfl, rfl⟩
    go_wp2_with fail
    go_ret
    exact ⟨rfl, (HBW.out.trans (hB1.mono (by omega))).mono (by rw [HBB.out]; exact Nat.le_refl _)⟩
  have d3 : decide ((3000 : Int) < (S.size : Int)) = false := by simp; omega
  have hS3 : S.size ≤ 3000 := by omega
  have hnr6 : nr ≤ 600 := by omega
  obtain ⟨cut, rfl⟩ := Int.eq_ofNat_of_zero_le ha0
  have N1 := Lib.hid (fun V hb => new_any A n c wr0 V hb)
  have K1 := Lib.hid (fun g V hd => mkVersion_any A n c z g wr0 V hzr hn hd)
  clear hzr h500 h600 h3000 hS ha0
  go_enter Try.func4, Try.ntmps4
  go_wp2_with fail
  rw [HWR.out]
  refine (vsane_any _).mono ?_
  rintro e w1 ⟨rfl, hB1⟩
  have hv := HVR.out.below hB1 (by omega)
  have q1 := hv.c1
  clear hv
  go_wp2_with fail
  refine (F1.out _).mono ?_
  rintro e w2 ⟨rfl, rfl⟩
  go_wp2_with fail
  refine (N1.out _ hB1).mono ?_
  rintro e w2 ⟨rfl, hd2, _⟩
  obtain ⟨g, hg⟩ : ∃ g, w1.heap.size = g := ⟨_, rfl⟩
  rw [hg] at hd2 ⊢
  have HD2 := Lib.hid hd2
  clear hd2 hB1 hg q1
  go_wp2_with fail
  refine (K1.out g _ HD2.out).mono ?_
  rintro e w3 ⟨na, Aa, ka, ca, la, rfl, hna, hma, hd3, _⟩
  have HNA := Lib.hid hna
  have HMA := Lib.hid hma
  have hb3 := hd3.1
  have HB3 := Lib.hid hb3
  have hs3 := hb3.size
  have hka : la.length = ka := hna.1
  have hka6 : ka ≤ 60 := by rw [← hka]; exact hma.2
  have hw3 : w.heap.size = B := HBB.out
  clear hna hma hd3 HD2 K1 N1 F1 hb3
  by_cases ha0 : na = 0
  · subst ha0
    go_wp2_with fail
    go_ret
    exact ⟨rfl, ((HBW.out.trans (HB3.out.mono (by omega))).alloc (by omega) _).mono (by omega)⟩
  have b1 : (na == 0) = false := beq_eq_false_iff_ne.2 ha0
  have hca := Vm.made_chk HMA.out ha0
  obtain ⟨E, hE⟩ : ∃ E : ByteArray, E = ⟨(Wm.encI na ++ Wm.encL (Vm.flat la)).toArray⟩ := ⟨_, rfl⟩
  have hEl : E.data.toList = Wm.encI na ++ Wm.encL (Vm.flat la) := by rw [hE]
  have hEs : E.size ≤ 2000 ∧ 1 ≤ E.size := by
    have h1 := Wm.encI_length na
    have h2 := (Wm.encI_length ((Vm.flat la).length : Int)).2
    have h3 := Wm.flatMap_length (Vm.flat la)
    have h4 := Vm.flat_length la
    have h5 : E.data.toList.length = E.size := by simp
    rw [hEl, List.length_append, Wm.encL, List.length_append] at h5
    omega
  have E1 := Lib.hid (fun V h => (by
    have h := renc_any na Aa ka ca la V h (by omega)
    rw [show Vm.enc na la = (Wm.encI na ++ Wm.encL (Vm.flat la), 0) by unfold Vm.enc; rw [if_pos hca]] at h
    rw [show Wm.str (Wm.encI na ++ Wm.encL (Vm.flat la), (0 : Int)).1 = .string E by rw [hE]; rfl] at h
    exact h : Calls Try.prog 29 #[.agg #[.int .i64 na, .slice Aa ka ca]] V fun e w' => e = .returned (.tuple #[.string E, .int .i64 0]) ∧ Below V.heap.size V w'))
  obtain ⟨hE2, hE1⟩ := hEs
  clear hE hEl hca ha0 hka
  obtain ⟨ES, hES⟩ : ∃ ES, E ++ S = ES := ⟨_, rfl⟩
  have zES : ES.size ≤ 6000 := by rw [← hES, ByteArray.size_append]; omega
  have a1 : ∀ W : World, (Op.stringOp .add E S).run Try.prog W = .ok (.string ES) W := fun W => hES ▸ run_string_add_sum W E S (by omega)
  clear hES
  obtain ⟨ke, hke⟩ : ∃ kc, cut % E.size = kc := ⟨_, rfl⟩
  have ke1 : ke < E.size := by have := Nat.mod_lt cut (show 0 < E.size by omega); omega
  have zEc : (E.extract 0 ke).size ≤ 6000 := by rw [ByteArray.size_extract]; omega
  have f1 : (cut : Int).tmod (E.size : Int) = (ke : Int) := by rw [Int.tmod_eq_emod_of_nonneg (by omega), ← hke]; simp
  have f2 : (cut : Int) % (E.size : Int) = (ke : Int) := by rw [← hke]; simp
  have f3 : (0 : Int) ≤ (ke : Int) := by omega
  have f4 : (ke : Int) ≤ (E.size : Int) := by omega
  have f4' : (ke : Int) < (E.size : Int) := by omega
  have f5 : IntKind.i64.wrap (cut : Int) = (cut : Int) := IntWalk.i64_in _ (by omega)
  have f7 : ¬ E.size < ke := by omega
  have f8 : decide (E.size < ke) = false := by simp; omega
  have f9 : IntKind.i64.wrap (ke : Int) = (ke : Int) := IntWalk.i64_in _ (by omega)
  have f10 : ¬ ((E.size : Int) = 0) := by omega
  have n1 : ¬ E = ByteArray.empty := fun h => by rw [h] at hE1; exact absurd hE1 (by decide)
  clear hke
  have F1 := Lib.hid f1
  have F2 := Lib.hid f2
  have F5 := Lib.hid f5
  have F9 := Lib.hid f9
  have F10 := Lib.hid f10
  have FN := Lib.hid n1
  clear f1 f2 f5 f9 f10 n1
  obtain ⟨ba, hbae⟩ : ∃ ba, w3.heap.size = ba := ⟨_, rfl⟩
  obtain ⟨w4, hw4⟩ : ∃ V, w3.alloc (.cells #[.int .i64 na, .slice Aa ka ca] 25) = V := ⟨_, rfl⟩
  have hb4 : Below ba w3 w4 := by rw [← hw4, ← hbae]; exact (Below.refl _ _).alloc (Nat.le_refl _) _
  have hs4 : w4.heap.size = ba + 1 := by rw [← hw4]; simp [hbae]
  have hva : VB ba na (.slice Aa ka ca) w4 := by rw [← hw4, ← hbae]; exact heap_alloc_new _ _
  have HW4 := Lib.hid hw4
  have HNA4 := Lib.hid (HNA.out.below (by rw [hbae]; exact hb4))
  have HB4 := Lib.hid (HB3.out.trans (hb4.mono (by omega)))
  have q0 := hva.c0
  have q1 := hva.c1
  clear hw4 hb4 hva HNA HB3
  go_wp2_with fail
  rw [HW4.out]
  refine (E1.out _ HNA4.out).mono ?_
  rintro e w5 ⟨rfl, hb5⟩
  have HB5 := Lib.hid (HB4.out.trans (hb5.mono (by omega)))
  have hs5 := hb5.size
  clear hb5 q0 q1 HNA4 HB4 HW4 E1
  obtain ⟨C, w6, hcv, hC, hB6, hsz6, hcell6, hfr6⟩ := bytes_of_string (P := Try.prog) w5 9 51 5 E Try.underlying9 Try.underlying51 Try.underlying5
  obtain ⟨G, hG⟩ : ∃ G, w5.heap.size = G := ⟨_, rfl⟩
  rw [hG] at hcv hsz6 hcell6 hfr6 hs5
  have HB6 := Lib.hid (HB5.out.trans (hB6.mono (by omega)))
  obtain ⟨t, ht, _, hct⟩ := bytes_set (W := w6) (g := G) hcell6 ke ke1 by_ hb0 hb1
  obtain ⟨u5, hc5⟩ : ∃ u, w6.cell? ⟨G, ke, none⟩ = some u := ⟨_, hcell6 ke ke1⟩
  have hf5 := hfr6 ke ke1
  have H4 := Lib.hid hcell6
  have H5 := Lib.hid hfr6
  have H6 := Lib.hid hct
  have H7 := Lib.hid ht
  have H8 := Lib.hid hG
  have f1 := F1.out
  have f2 := F2.out
  have f5 := F5.out
  have f9 := F9.out
  have f10 := F10.out
  have n1 := FN.out
  clear hcell6 hfr6 hct ht hG hB6 HB5
  go_wp2_with fail
  have hcell7 : BytesAt (w6.setCell ⟨G, ke, none⟩ (.int .u8 by_)) G t := H6.out
  have hlt7 : (w6.setCell ⟨G, ke, none⟩ (.int .u8 by_)).heap.size = G + 1 := by simp [hsz6]
  have hB7 := HB6.out.setCell (p := ⟨G, ke, none⟩) (show wr0.heap.size ≤ G by omega) (.int .u8 by_)
  rw [hsw] at hB7
  have hB7 : Below (B + 1) wr0 (w6.setCell ⟨G, ke, none⟩ (.int .u8 by_)) := hB7
  have hts := H7.out
  generalize (w6.setCell ⟨G, ke, none⟩ (.int .u8 by_)) = w7 at hcell7 hlt7 hB7 ⊢
  clear H4 H5 H6 H7 H8 hc5 hf5 hcv hsz6 HB6
  have HV := Lib.hid (fun (W : World) (h : BytesAt W G t) => h.conv (P := Try.prog) 51 9 5 E.size C hts.symm Try.underlying51 Try.underlying5 Try.underlying9)
  have hts6 : t.size ≤ 6000 := by omega
  have hS0 := HV.out _ hcell7
  clear hts
  go_region_held3 (fun w' => (convert 51 9 (.slice (some ⟨G, 0, none⟩) E.size C)).run Try.prog w' = .ok (.string t) w' ∧ BytesAt w' G t) (first | exact ⟨HV.out _ hcell7, hcell7⟩ | exact ⟨HV.out _ (BytesAt.drew hcell7), BytesAt.drew hcell7⟩ | exact ⟨HV.out _ (BytesAt.alloc (BytesAt.drew hcell7) (by simp; omega) _), BytesAt.alloc (BytesAt.drew hcell7) (by simp; omega) _⟩) (fail)
  obtain ⟨Q, hQ⟩ : ∃ Q : List ByteArray, Q = [S, E, t, ES, E.extract 0 ke] := ⟨_, rfl⟩
  have hQl : Q.length = 5 := by rw [hQ]; rfl
  have hQs : ∀ x ∈ Q, x.size ≤ 6000 := by
    intro x hx
    rw [hQ] at hx
    simp only [List.mem_cons, List.not_mem_nil, or_false] at hx
    rcases hx with rfl | rfl | rfl | rfl | rfl <;> omega
  have e5 : #[Value.string S, Value.string E, Value.string t, Value.string ES, Value.string (E.extract 0 ke)] = (Q.map Value.string).toArray := by rw [hQ]; rfl
  rw [e5]
  have hc0 : ∀ i (h : i < Q.length), (w7.alloc (.cells (Q.map Value.string).toArray 9)).drew.cell? ⟨G + 1, i, none⟩ = some (.string Q[i]) := new_strs w7 9 Q (G + 1) hlt7.symm
  have hs0 : (w7.alloc (.cells (Q.map Value.string).toArray 9)).drew.heap.size = G + 2 := by simp [hlt7]
  have hB0 := (hB7.alloc (by omega) (.cells (Q.map Value.string).toArray 9)).drew
  generalize (w7.alloc (.cells (Q.map Value.string).toArray 9)).drew = W0 at hc0 hs0 hB0 ⊢
  have HC0 := Lib.hid hc0
  have HB0 := Lib.hid hB0
  have HQl := Lib.hid hQl
  have HQs := Lib.hid hQs
  have hGB : B + 1 ≤ G := by omega
  have C1 := Lib.hid (fun V h => menc_any rn Ar nr cr lr V h (by omega))
  have C2 := Lib.hid (fun V h => renc_any rn Ar nr cr lr V h (by omega))
  clear hc0 hB0 hQl hQs hQ e5 hB7 hlt7 hS0 f1 f2 f3 f4 f4' f5 f7 f8 f9 f10 n1 HV hcell7 F1 F2 F5 F9 F10 FN a1 zES zEc ke1 hts6 hs4 hs3 hs5
  go_wp2_with fail
  go_loopw [78] (fun i wr => ∃ j : Nat, j ≤ 5 ∧ i = .int .i64 j ∧ Below (G + 2) W0 wr) (fun i wr => 5 - (intOf i).toNat)
  case atStart => exact ⟨0, by omega, rfl, Below.refl _ _⟩
  case round =>
    obtain ⟨j, hj, rfl, hBr⟩ := hrel
    have HBr := Lib.hid hBr
    have zr : G + 2 ≤ wr.heap.size := by have := hBr.size; omega
    by_cases hlt : j < 5
    · have d8 : decide ((j : Int) < 5) = true := by simp; omega
      obtain ⟨v, hv⟩ : ∃ v, Q[j]'(by rw [HQl.out]; exact hlt) = v := ⟨_, rfl⟩
      have hcj := (hBr.cell (p := ⟨G + 1, j, none⟩) (by show G + 1 < G + 2; omega)).trans (HC0.out j (by rw [HQl.out]; exact hlt))
      have hvs := HQs.out _ (List.getElem_mem (by rw [HQl.out]; exact hlt))
      rw [hv] at hcj hvs
      obtain ⟨r, hr⟩ : ∃ r, Vm.dec v.data.toList = r := ⟨_, rfl⟩
      have hrl := Vm.dec_len v.data.toList
      have D1 := Lib.hid (fun V => hr ▸ mdec_any v V (by omega))
      have D2 := Lib.hid (fun V => hr ▸ rdec_any v V (by omega))
      rw [hr] at hrl
      obtain ⟨p, q, e⟩ := r
      simp only at hrl
      clear hv hBr hr
      obtain ⟨wo, hwo⟩ : ∃ wo : World, wo = wr := ⟨_, rfl⟩
      rw [← hwo] at HBr zr hcj ⊢
      clear hwo
      go_wp2_with fail
      refine (D1.out _).mono ?_
      rintro e' w8 ⟨v8, rfl, ho8, hb8⟩
      obtain ⟨A8, c8, rfl, hn8⟩ := own_names ho8
      have z8 := hb8.size
      have HB8 := Lib.hid (HBr.out.trans (hb8.mono (by omega)))
      have hnl : q.length ≤ 17592186044416 := by omega
      obtain ⟨b8, hb8e⟩ : ∃ b, w8.heap.size = b := ⟨_, rfl⟩
      obtain ⟨w9, hw9⟩ : ∃ V, w8.alloc (.cells #[.int .i64 p, .slice A8 q.length c8] 25) = V := ⟨_, rfl⟩
      have hb9 : Below b8 w8 w9 := by rw [← hw9, ← hb8e]; exact (Below.refl _ _).alloc (Nat.le_refl _) _
      have hs9 : w9.heap.size = b8 + 1 := by rw [← hw9]; simp [hb8e]
      have hv9 : VB b8 p (.slice A8 q.length c8) w9 := by rw [← hw9, ← hb8e]; exact heap_alloc_new _ _
      have HW9 := Lib.hid hw9
      have HN9 := Lib.hid (hn8.below (by rw [hb8e]; exact hb9))
      have HV9 := Lib.hid hv9
      have HB9 := Lib.hid (HB8.out.trans (hb9.mono (by omega)))
      clear ho8 hn8 hb8 hw9 hb9 hv9 hcj
      go_wp2_with fail
      rw [HW9.out]
      refine (D2.out _).mono ?_
      rintro e' w10 ⟨v10, rfl, ho10, hb10⟩
      obtain ⟨A10, c10, rfl, hn10⟩ := own_names ho10
      have z10 := hb10.size
      have hv10 := HV9.out.below hb10 (by omega)
      have hn9 := HN9.out.below hb10
      have HB10 := Lib.hid (HB9.out.trans (hb10.mono (by omega)))
      have k0 := hv10.c0
      have k1 := hv10.c1
      obtain ⟨b10, hb10e⟩ : ∃ b, w10.heap.size = b := ⟨_, rfl⟩
      obtain ⟨w11, hw11⟩ : ∃ V, w10.alloc (.cells #[.int .i64 p, .slice A10 q.length c10] 25) = V := ⟨_, rfl⟩
      have hb11 : Below b10 w10 w11 := by rw [← hw11, ← hb10e]; exact (Below.refl _ _).alloc (Nat.le_refl _) _
      have hv11 := hv10.below hb11 (by omega)
      have k2 : (w10.alloc (.cells #[.int .i64 p, .slice A10 q.length c10] 25)).cell? ⟨b8, 0, none⟩ = some (.int .i64 p) := by rw [hw11]; exact hv11.c0
      have k3 : (w10.alloc (.cells #[.int .i64 p, .slice A10 q.length c10] 25)).cell? ⟨b8, 1, none⟩ = some (.slice A8 q.length c8) := by rw [hw11]; exact hv11.c1
      have hbl : b8 < w10.heap.size := by omega
      have M1 := Lib.hid (fun V h h' => (by
        have h := rsameV_any p p A8 A10 q.length q.length c8 c10 q q V h h' hnl hnl
        rw [decide_eq_true (⟨rfl, rfl⟩ : p = p ∧ q = q)] at h
        exact h : Calls Try.prog 18 #[.agg #[.int .i64 p, .slice A8 q.length c8], .agg #[.int .i64 p, .slice A10 q.length c10]] V fun e w' => e = .returned (.bool true) ∧ Below V.heap.size V w'))
      have HW11 := Lib.hid hw11
      have HN11 := Lib.hid (hn9.below (by rw [hb10e]; exact hb11))
      have HM11 := Lib.hid (hn10.below (by rw [hb10e]; exact hb11))
      have HB11 := Lib.hid (HB10.out.trans (hb11.mono (by omega)))
      have hz11 : b10 ≤ w11.heap.size := by rw [← hb10e]; exact hb11.size
      have hee : (e != e) = false := by simp
      clear ho10 hn10 hb10 hw11 hb11 hv10 hv11 hn9
      go_wp2_with fail
      rw [HW11.out]
      refine (M1.out _ HN11.out HM11.out).mono ?_
      rintro e' w12 ⟨rfl, hb12⟩
      have HB12 := Lib.hid (HB11.out.trans (hb12.mono (by omega)))
      clear hb12 k0 k1 k2 k3
      go_wp2_with fail
      go_roundw
      case rel => exact ⟨j + 1, by omega, by go_num, HB12.out⟩
      case measure => simp [intOf]; omega
    · obtain rfl : j = 5 := by omega
      have d8 : decide (((5 : Nat) : Int) < 5) = false := by decide
      have hBx := HB0.out.trans (hBr.mono (by omega))
      have hv := HVR.out.below hBx (by omega)
      have q0 := hv.c0
      have q1 := hv.c1
      have HLX := Lib.hid (HLR.out.below (by rw [hsw]; exact hBx))
      have HVX := Lib.hid hv
      have HBX := Lib.hid (HBW.out.trans (hBx.mono (by omega)))
      obtain ⟨x, hx⟩ : ∃ x, Vm.enc rn lr = x := ⟨_, rfl⟩
      rw [hx] at C1 C2
      obtain ⟨xs, xe⟩ := x
      obtain ⟨X, hX⟩ : ∃ X : ByteArray, X = ⟨xs.toArray⟩ := ⟨_, rfl⟩
      have E1 := Lib.hid (fun V h => (by
        have h := C1.out V h
        rw [show Wm.str (xs, xe).1 = .string X by rw [hX]; rfl] at h
        exact h : Calls Try.prog 32 #[.agg #[.int .i64 rn, .slice Ar nr cr]] V fun e w' => e = .returned (.tuple #[.string X, .int .i64 xe]) ∧ Below V.heap.size V w'))
      have E2 := Lib.hid (fun V h => (by
        have h := C2.out V h
        rw [show Wm.str (xs, xe).1 = .string X by rw [hX]; rfl] at h
        exact h : Calls Try.prog 29 #[.agg #[.int .i64 rn, .slice Ar nr cr]] V fun e w' => e = .returned (.tuple #[.string X, .int .i64 xe]) ∧ Below V.heap.size V w'))
      have hzx := hBx.size
      obtain ⟨wo, hwo⟩ : ∃ wo : World, wo = wr := ⟨_, rfl⟩
      rw [← hwo] at HLX HVX HBX q0 q1 zr hzx ⊢
      clear hBr HBr hBx hv hx hX C1 C2 hwo
      go_wp2_with fail
      refine (E1.out _ HLX.out).mono ?_
      rintro e' w8 ⟨rfl, hb8⟩
      have HL8 := Lib.hid (HLX.out.below hb8)
      have hv := HVX.out.below hb8 (by omega)
      have k0 := hv.c0
      have k1 := hv.c1
      have HB8 := Lib.hid (HBX.out.trans (hb8.mono (by omega)))
      have z8 := hb8.size
      clear hb8 hv q0 q1
      go_wp2_with fail
      refine (E2.out _ HL8.out).mono ?_
      rintro e' w9 ⟨rfl, hb9⟩
      have HB9 := Lib.hid ((HB8.out.trans (hb9.mono (by omega))).mono (show w.heap.size ≤ B by rw [HBB.out]; exact Nat.le_refl _))
      clear hb9 k0 k1
      go_wp2_with fail
      go_ret
      exact ⟨rfl, HB9.out⟩

end Go.Proofs.Ytebkgndcgcdogaa
