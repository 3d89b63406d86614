/-
  ManifestBack: its walk.
-/
import Derived.Test.YtebkgndcgcdogaaVn
import Derived.Test.YtebkgndcgcdogaaManF
namespace Go.Proofs.Ytebkgndcgcdogaa
open Go.RowKit
set_option maxHeartbeats 4000000

set_option maxRecDepth 100000 in
theorem manifestBack_walk (A : Option Addr) (n c : Nat) (z : List Int) (A' : Option Addr) (n' c' : Nat) (z' : List Int) (w : World) (hz : IntsIn .i64 w A n c z) (hc : c * Try.prog.bytesOf 3 ≤ 140737488351232) (hz' : IntsIn .i64 w A' n' c' z') (hc' : c' * Try.prog.bytesOf 3 ≤ 140737488351232) :
    Calls Try.prog 6 #[.slice A n c, .slice A' n' c'] w fun e w' => e = .returned (.bool true) ∧ Below w.heap.size w w' := by
  have hb8 : Try.prog.bytesOf 3 = 8 := by kernel_rfl
  rw [hb8] at hc hc'
  have hnc := hz.2.1
  have hnc' := hz'.2.1
  have hn : n ≤ 17592186044416 := by omega
  have hn' : n' ≤ 17592186044416 := by omega
  clear hb8 hc hnc hc' hnc'
  have F1 := Lib.hid (fun V => few_any A n c V (by omega))
  have F2 := Lib.hid (fun V => few_any A' n' c' V (by omega))
  by_cases h500 : 500 < n
  · have d1 : decide ((n : Int) ≤ 500) = false := by simp; omega
    go_enter Try.func6, Try.ntmps6
    go_wp2_with fail
    refine (vsane_any _).mono ?_
    rintro e w1 ⟨rfl, hB1⟩
    go_wp2_with fail
    refine (F1.out _).mono ?_
    rintro e w2 ⟨rfl, rfl⟩
    go_wp2_with fail
    go_ret
    exact ⟨rfl, hB1⟩
  have d1 : decide ((n : Int) ≤ 500) = true := by simp; omega
  by_cases h501 : 500 < n'
  · have d2 : decide ((n' : Int) ≤ 500) = false := by simp; omega
    go_enter Try.func6, Try.ntmps6
    go_wp2_with fail
    refine (vsane_any _).mono ?_
    rintro e w1 ⟨rfl, hB1⟩
    go_wp2_with fail
    refine (F1.out _).mono ?_
    rintro e w2 ⟨rfl, rfl⟩
    go_wp2_with fail
    refine (F2.out _).mono ?_
    rintro e w2 ⟨rfl, rfl⟩
    go_wp2_with fail
    go_ret
    exact ⟨rfl, hB1⟩
  have d2 : decide ((n' : Int) ≤ 500) = true := by simp; omega
  have N1 := Lib.hid (fun V hb => new_any A n c w V hb)
  have N2 := Lib.hid (fun V hb => new_any A' n' c' w V hb)
  have K1 := Lib.hid (fun g V hd => mkVersion_any A n c z g w V hz hn hd)
  have K2 := Lib.hid (fun g V hd => mkVersion_any A' n' c' z' g w V hz' hn' hd)
  clear hz hz' h500 h501
  go_enter Try.func6, Try.ntmps6
  go_wp2_with fail
  refine (vsane_any _).mono ?_
  rintro e w1 ⟨rfl, hB1⟩
  go_wp2_with fail
  refine (F1.out _).mono ?_
  rintro e w2 ⟨rfl, rfl⟩
  go_wp2_with fail
  refine (F2.out _).mono ?_
  rintro e w2 ⟨rfl, rfl⟩
  go_wp2_with fail
  refine (N1.out _ hB1).mono ?_
  rintro e w2 ⟨rfl, hd2, _⟩
  obtain ⟨g, hg⟩ : ∃ g, w1.heap.size = g := ⟨_, rfl⟩
  rw [hg] at hd2 ⊢
  have HD2 := Lib.hid hd2
  clear hd2 hB1 hg
  go_wp2_with fail
  refine (K1.out g _ HD2.out).mono ?_
  rintro e w3 ⟨na, Aa, ka, ca, la, rfl, hna, hma, hd3, _⟩
  have HNA := Lib.hid hna
  have HMA := Lib.hid hma
  have hb3 := hd3.1
  clear hna hma hd3 HD2
  go_wp2_with fail
  refine (N2.out _ hb3).mono ?_
  rintro e w4 ⟨rfl, hd4, hb4⟩
  obtain ⟨g2, hg2⟩ : ∃ g, w3.heap.size = g := ⟨_, rfl⟩
  rw [hg2] at hd4 ⊢
  have HD4 := Lib.hid hd4
  have HNA4 := Lib.hid (HNA.out.below hb4)
  clear hd4 hb3 hb4 hg2 HNA
  go_wp2_with fail
  refine (K2.out g2 _ HD4.out).mono ?_
  rintro e w5 ⟨nb, Ab, kb, cb, lb, rfl, hnb, hmb, hd5, hk5⟩
  have HNA5 := Lib.hid (HNA4.out.kept HD4.out hk5)
  have HNB5 := Lib.hid hnb
  have HMB := Lib.hid hmb
  have HB5 := Lib.hid hd5.1
  clear hnb hmb hd5 hk5 HD4 HNA4 N1 N2 K1 K2 F1 F2
  have hka : la.length = ka := HNA5.out.1
  have hkb : lb.length = kb := HNB5.out.1
  have hka6 : ka ≤ 60 := by rw [← hka]; exact HMA.out.2
  have hkb6 : kb ≤ 60 := by rw [← hkb]; exact HMB.out.2
  by_cases ha0 : na = 0
  · subst ha0
    go_wp2_with fail
    go_ret
    exact ⟨rfl, (HB5.out.alloc HB5.out.size _).alloc (by have := HB5.out.size; simp; omega) _⟩
  by_cases hb0 : nb = 0
  · subst hb0
    have b1 : (na == 0) = false := beq_eq_false_iff_ne.2 ha0
    go_wp2_with fail
    go_ret
    exact ⟨rfl, (HB5.out.alloc HB5.out.size _).alloc (by have := HB5.out.size; simp; omega) _⟩
  have b1 : (na == 0) = false := beq_eq_false_iff_ne.2 ha0
  have b2 : (nb == 0) = false := beq_eq_false_iff_ne.2 hb0
  have hca := Vm.made_chk HMA.out ha0
  have hcb := Vm.made_chk HMB.out hb0
  obtain ⟨S, hS⟩ : ∃ S : ByteArray, S = ⟨(Wm.encI na ++ Wm.encL (Vm.flat la)).toArray⟩ := ⟨_, rfl⟩
  obtain ⟨U, hU⟩ : ∃ U : ByteArray, U = ⟨(Wm.encI nb ++ Wm.encL (Vm.flat lb)).toArray⟩ := ⟨_, rfl⟩
  have hSl : S.data.toList = Wm.encI na ++ Wm.encL (Vm.flat la) := by rw [hS]
  have hUl : U.data.toList = Wm.encI nb ++ Wm.encL (Vm.flat lb) := by rw [hU]
  have hSs : S.size ≤ 2000 := by
    have h1 := (Wm.encI_length na).2
    have h2 := (Wm.encI_length ((Vm.flat la).length : Int)).2
    have h3 := Wm.flatMap_length (Vm.flat la)
    have h4 := Vm.flat_length la
    have h5 : S.data.toList.length = S.size := by simp
    rw [hSl, List.length_append, Wm.encL, List.length_append] at h5
    omega
  have E1 := Lib.hid (fun V h => (by
    have h := menc_any na Aa ka ca la V h (by omega)
    rw [show Vm.enc na la = (Wm.encI na ++ Wm.encL (Vm.flat la), 0) by unfold Vm.enc; rw [if_pos hca]] at h
    rw [show Wm.str (Wm.encI na ++ Wm.encL (Vm.flat la), (0 : Int)).1 = .string S by rw [hS]; rfl] at h
    exact h : Calls Try.prog 32 #[.agg #[.int .i64 na, .slice Aa ka ca]] V fun e w' => e = .returned (.tuple #[.string S, .int .i64 0]) ∧ Below V.heap.size V w'))
  have E2 := Lib.hid (fun V h => (by
    have h := menc_any nb Ab kb cb lb V h (by omega)
    rw [show Vm.enc nb lb = (Wm.encI nb ++ Wm.encL (Vm.flat lb), 0) by unfold Vm.enc; rw [if_pos hcb]] at h
    rw [show Wm.str (Wm.encI nb ++ Wm.encL (Vm.flat lb), (0 : Int)).1 = .string U by rw [hU]; rfl] at h
    exact h : Calls Try.prog 32 #[.agg #[.int .i64 nb, .slice Ab kb cb]] V fun e w' => e = .returned (.tuple #[.string U, .int .i64 0]) ∧ Below V.heap.size V w'))
  have D1 := Lib.hid (fun V => (by
    have h := mdec_any S V (by omega)
    rw [hSl, Vm.dec_enc hca] at h
    exact h : Calls Try.prog 30 #[.string S] V (Vm.RetV V.heap.size V (na, la, 0))))
  have hsu : (S = U) ↔ (na = nb ∧ la = lb) := by
    constructor
    · intro e
      exact Vm.enc_inj hca hcb (by rw [← hSl, ← hUl, e])
    · rintro ⟨rfl, rfl⟩; rw [hS, hU]
  obtain ⟨bo, hbo⟩ : ∃ bo, decide (na = nb ∧ la = lb) = bo := ⟨_, rfl⟩
  have hSU : (S.toList == U.toList) = bo := by
    rw [← hbo]
    by_cases h : S = U
    · rw [decide_eq_true (hsu.1 h), h]; exact str_same rfl
    · rw [decide_eq_false (fun e => h (hsu.2 e))]; exact str_ne h
  have M1 := Lib.hid (fun V A c h h' => (by
    have h := msameV_any na na A Aa ka ka c ca la la V h h' (by omega) (by omega)
    rw [decide_eq_true (⟨rfl, rfl⟩ : na = na ∧ la = la)] at h
    exact h : Calls Try.prog 28 #[.agg #[.int .i64 na, .slice A ka c], .agg #[.int .i64 na, .slice Aa ka ca]] V fun e w' => e = .returned (.bool true) ∧ Below V.heap.size V w'))
  have M2 := Lib.hid (fun V h h' => hbo ▸ msameV_any na nb Aa Ab ka kb ca cb la lb V h h' (by omega) (by omega))
  have b0 := HB5.out.size
  obtain ⟨ba, hbae⟩ : ∃ ba, w5.heap.size = ba := ⟨_, rfl⟩
  obtain ⟨w6, hw6⟩ : ∃ V, (w5.alloc (.cells #[.int .i64 na, .slice Aa ka ca] 25)).alloc (.cells #[.int .i64 nb, .slice Ab kb cb] 25) = V := ⟨_, rfl⟩
  have hb6 : Below ba w5 w6 := by rw [← hw6, ← hbae]; exact ((Below.refl _ _).alloc (Nat.le_refl _) _).alloc (by simp) _
  have hs6 : w6.heap.size = ba + 2 := by rw [← hw6]; simp [hbae]
  have hva : VB ba na (.slice Aa ka ca) w6 := by
    rw [← hw6, ← hbae]
    exact (Below.heap_alloc _ _ _ (by simp)).trans (heap_alloc_new _ _)
  have hvb : VB (ba + 1) nb (.slice Ab kb cb) w6 := by
    rw [← hw6, ← hbae]
    have := heap_alloc_new (w5.alloc (.cells #[.int .i64 na, .slice Aa ka ca] 25)) (.cells #[.int .i64 nb, .slice Ab kb cb] 25)
    rw [World.size_alloc] at this
    exact this
  have HW6 := Lib.hid hw6
  have HNA6 := Lib.hid (HNA5.out.below (by rw [hbae]; exact hb6))
  have HNB6 := Lib.hid (HNB5.out.below (by rw [hbae]; exact hb6))
  have HVA6 := Lib.hid hva
  have HVB6 := Lib.hid hvb
  have HB6 := Lib.hid (HB5.out.trans (hb6.mono (by omega)))
  have q0 := hva.c0
  have q1 := hva.c1
  have q2 := hvb.c0
  have q3 := hvb.c1
  clear hw6 hb6 hva hvb hS hU hSl hUl hSs hsu hbo HNA5 HNB5 hca hcb ha0 hb0
  go_wp2_with fail
  rw [HW6.out]
  refine (E1.out _ HNA6.out).mono ?_
  rintro e w7 ⟨rfl, hb7⟩
  have HNA7 := Lib.hid (HNA6.out.below hb7)
  have HNB7 := Lib.hid (HNB6.out.below hb7)
  have HVA7 := Lib.hid (HVA6.out.below hb7 (by omega))
  have hvb := HVB6.out.below hb7 (by omega)
  have HVB7 := Lib.hid hvb
  have hs7 := hb7.size
  have HB7 := Lib.hid (HB6.out.trans (hb7.mono (by omega)))
  have r0 := hvb.c0
  have r1 := hvb.c1
  clear hb7 hvb q0 q1 q2 q3
  go_wp2_with fail
  refine (E2.out _ HNB7.out).mono ?_
  rintro e w8 ⟨rfl, hb8⟩
  have HNA8 := Lib.hid (HNA7.out.below hb8)
  have HNB8 := Lib.hid (HNB7.out.below hb8)
  have HVA8 := Lib.hid (HVA7.out.below hb8 (by omega))
  have HVB8 := Lib.hid (HVB7.out.below hb8 (by omega))
  have hs8 := hb8.size
  have HB8 := Lib.hid (HB7.out.trans (hb8.mono (by omega)))
  clear hb8 r0 r1
  go_wp2_with fail
  refine (D1.out _).mono ?_
  rintro e w9 ⟨vx, rfl, hox, hb9⟩
  obtain ⟨Ax, cx, rfl, hnx⟩ := own_names hox
  rw [hka] at hnx ⊢
  have HNX9 := Lib.hid hnx
  have HNA9 := Lib.hid (HNA8.out.below hb9)
  have HNB9 := Lib.hid (HNB8.out.below hb9)
  have HVA9 := Lib.hid (HVA8.out.below hb9 (by omega))
  have HVB9 := Lib.hid (HVB8.out.below hb9 (by omega))
  have hs9 := hb9.size
  have HB9 := Lib.hid (HB8.out.trans (hb9.mono (by omega)))
  clear hb9 hox hnx
  obtain ⟨bx, hbxe⟩ : ∃ bx, w9.heap.size = bx := ⟨_, rfl⟩
  obtain ⟨w10, hw10⟩ : ∃ V, w9.alloc (.cells #[.int .i64 na, .slice Ax ka cx] 25) = V := ⟨_, rfl⟩
  have hb10 : Below bx w9 w10 := by rw [← hw10, ← hbxe]; exact (Below.refl _ _).alloc (Nat.le_refl _) _
  have hs10 : w10.heap.size = bx + 1 := by rw [← hw10]; simp [hbxe]
  have hvx : VB bx na (.slice Ax ka cx) w10 := by rw [← hw10, ← hbxe]; exact heap_alloc_new _ _
  have HW10 := Lib.hid hw10
  have HNX := Lib.hid (HNX9.out.below (by rw [hbxe]; exact hb10))
  have HNA := Lib.hid (HNA9.out.below (by rw [hbxe]; exact hb10))
  have HNB := Lib.hid (HNB9.out.below (by rw [hbxe]; exact hb10))
  have hva := HVA9.out.below hb10 (by omega)
  have hvb := HVB9.out.below hb10 (by omega)
  have HB10 := Lib.hid (HB9.out.trans (hb10.mono (by omega)))
  have HVX := Lib.hid hvx
  have HVA := Lib.hid hva
  have HVB := Lib.hid hvb
  have k0 : (w9.alloc (.cells #[.int .i64 na, .slice Ax ka cx] 25)).cell? ⟨ba, 0, none⟩ = some (.int .i64 na) := by rw [hw10]; exact hva.c0
  have k1 : (w9.alloc (.cells #[.int .i64 na, .slice Ax ka cx] 25)).cell? ⟨ba, 1, none⟩ = some (.slice Aa ka ca) := by rw [hw10]; exact hva.c1
  have k2 := (show VB ba na (.slice Aa ka ca) w9 from HVA9.out).c0
  have k3 := (show VB ba na (.slice Aa ka ca) w9 from HVA9.out).c1
  clear hw10 hb10 hvx hva hvb HNA9 HNB9 HVA9 HVB9 HNX9 HNA8 HNB8 HVA8 HVB8 HNA7 HNB7 HVA7 HVB7 HNA6 HNB6 HVA6 HVB6
  go_wp2_with fail
  rw [HW10.out]
  refine (M1.out _ Ax cx HNX.out HNA.out).mono ?_
  rintro e w11 ⟨rfl, hb11⟩
  have HNA11 := Lib.hid (HNA.out.below hb11)
  have HNB11 := Lib.hid (HNB.out.below hb11)
  have hva := HVA.out.below hb11 (by omega)
  have hvb := HVB.out.below hb11 (by omega)
  have hs11 := hb11.size
  have HB11 := Lib.hid (HB10.out.trans (hb11.mono (by omega)))
  clear k0 k1 k2 k3
  have k0 := hva.c0
  have k1 := hva.c1
  have k2 := hvb.c0
  have k3 := hvb.c1
  clear hb11 hva hvb
  go_wp2_with fail
  refine (M2.out _ HNA11.out HNB11.out).mono ?_
  rintro e w12 ⟨rfl, hb12⟩
  have HB12 := Lib.hid (HB11.out.trans (hb12.mono (by omega)))
  clear hb12 k0 k1 k2 k3
  cases bo with
  | true =>
    go_wp2_with fail
    go_ret
    exact ⟨rfl, HB12.out⟩
  | false =>
    go_wp2_with fail
    go_ret
    exact ⟨rfl, HB12.out⟩

end Go.Proofs.Ytebkgndcgcdogaa
