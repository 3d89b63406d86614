/-
  ManifestAppends: its walk.
-/
import Derived.Test.YtebkgndcgcdogaaLawVS
import Derived.Test.YtebkgndcgcdogaaManG
import Derived.Test.YtebkgndcgcdogaaVn
namespace Go.Proofs.Ytebkgndcgcdogaa
open Go.RowKit
set_option maxHeartbeats 4000000

set_option maxRecDepth 100000 in
theorem manifestAppends_walk (A : Option Addr) (n c : Nat) (z : List Int) (w : World) (hz : IntsIn .i64 w A n c z) (hc : c * Try.prog.bytesOf 3 ≤ 140737488351232) :
    Calls Try.prog 8 #[.slice A n c] w fun e w' => e = .returned (.bool true) ∧ Below w.heap.size w w' := by
  have hb8 : Try.prog.bytesOf 3 = 8 := by kernel_rfl
  rw [hb8] at hc
  have hnc := hz.2.1
  have hn : n ≤ 17592186044416 := by omega
  clear hb8 hc hnc
  have F1 := Lib.hid (fun V => few_any A n c V (by omega))
  by_cases h500 : 500 < n
  · have d1 : decide ((n : Int) ≤ 500) = false := by simp; omega
    go_enter Try.func8, Try.ntmps8
    go_wp2_with fail
    refine (vsane_any _).mono ?_
    rintro e w1 ⟨rfl, hB1⟩
    go_wp2_with fail
    refine (F1.out _).mono ?_
    rintro e w2 ⟨rfl, rfl⟩
    go_wp2
    go_ret
    exact ⟨rfl, hB1⟩
  have d1 : decide ((n : Int) ≤ 500) = true := by simp; omega
  have N1 := Lib.hid (fun V hb => new_any A n c w V hb)
  have K1 := Lib.hid (fun g V hd => mkChunks_any A n c z g w V hz hn hd)
  have B1 := Lib.hid (fun g V hd => mkBytes_any A n c z g w V 20 hz hn hd (by decide) (by decide))
  clear hz h500
  go_enter Try.func8, Try.ntmps8
  go_wp2_with fail
  refine (vsane_any _).mono ?_
  rintro e w1 ⟨rfl, hB1⟩
  go_wp2_with fail
  refine (F1.out _).mono ?_
  rintro e w2 ⟨rfl, rfl⟩
  go_wp2_with fail
  refine (N1.out _ hB1).mono ?_
  rintro e w2 ⟨rfl, hd2, _⟩
  obtain ⟨g, hg⟩ : ∃ g, w1.heap.size = g := ⟨_, rfl⟩
  rw [hg] at hd2 ⊢
  have HD2 := Lib.hid hd2
  clear hd2 hB1 hg
  go_wp2_with fail
  refine (K1.out g _ HD2.out).mono ?_
  rintro e w3 ⟨A1, n1, c1, l, rfl, hci, hno, hfw, hd3, _⟩
  have HNO := Lib.hid hno
  have HCI := Lib.hid hci
  have HFW := Lib.hid hfw
  have HD3 := Lib.hid hd3
  clear hci hfw hd3 HD2 hno
  go_wp2_with fail
  refine (B1.out g _ HD3.out).mono ?_
  rintro e w4 ⟨T, rfl, hT1, hT2, hd4, hk4⟩
  have HCI4 := Lib.hid (strsIn_kept HCI.out HD3.out hk4)
  have HB4 := Lib.hid hd4.1
  have hlg := hd4.2.1
  clear hd4 hk4 HD3 HCI N1 K1 B1 F1 hlg
  have hln : l.length = n1 := by have := HCI4.out.1; simpa using this
  have hl60 := Vm.few_len HFW.out
  obtain ⟨r, hr⟩ : ∃ r, Vm.ofV 1 l = r := ⟨_, rfl⟩
  have O1 := Lib.hid (fun V h => hr ▸ mof_any 1 A1 n1 c1 l V h (fun x hx => by have := (HFW.out.2 x hx).2; omega) (by omega))
  have HR := Lib.hid hr
  have HLN := Lib.hid hln
  clear hr hln
  obtain ⟨p1, q1, e1⟩ := r
  go_wp2_with fail
  refine (O1.out _ HCI4.out).mono ?_
  rintro e w5 ⟨v1, rfl, ho5, hb5⟩
  have HCI5 := Lib.hid (HCI4.out.below hb5)
  have HB5 := Lib.hid (HB4.out.trans (hb5.mono HB4.out.size))
  have HO5 := Lib.hid ho5
  obtain ⟨A5, c5, rfl, hn5⟩ := own_names ho5
  have HN5 := Lib.hid hn5
  clear ho5 hb5 hn5
  obtain ⟨i0, hi, hz0, hz1, hz2⟩ := info_parts info_str
  have hTe : Value.string T = Cm.str T.data.toList := by unfold Cm.str; rw [Cm.b_of]
  have hs5 := HB5.out.size
  obtain ⟨wa, hwa⟩ : ∃ V, w5.alloc (.cells #[.int .i64 p1, .slice A5 q1.length c5] 25) = V := ⟨_, rfl⟩
  have hva : VB w5.heap.size p1 (.slice A5 q1.length c5) wa := by rw [← hwa]; exact heap_alloc_new _ _
  have hba : Below w5.heap.size w5 wa := by rw [← hwa]; exact (Below.refl _ _).alloc (Nat.le_refl _) _
  have hsa : wa.heap.size = w5.heap.size + 1 := by rw [← hwa]; simp
  have HWA := Lib.hid hwa
  have HVA := Lib.hid hva
  have HBA := Lib.hid hba
  have HCA := Lib.hid (HCI5.out.below hba)
  have HTE := Lib.hid hTe
  have hlm : (l.map Cm.str).length = n1 := by rw [List.length_map, HLN.out]
  have HLM := Lib.hid hlm
  clear hwa hva hba hTe hlm
  have hn1 : n1 ≤ 60 := by rw [← HLN.out]; exact hl60
  go_wp2_with (at_builtin; first | (refine wpList_append_from_nil rfl _ 26 rfl (w5.heap.size + 1) 9 i0 (.string ByteArray.empty) 1 16 Try.underlying26 hi hz0 hz1 hz2 rfl (by decide) A1 n1 c1 (l.map Cm.str) rfl HNO.out (by rw [HLM.out, Nat.mul_one]) (HWA.out ▸ HCA.out.fresh) (str_one l) (by unfold maxLen; omega) (by omega) (by simp) ?_; intro v6 w6 ho6 hg6; have HO6 := Lib.hid ho6; have HG6 := Lib.hid hg6; have hs6 := hg6.size; clear ho6 hg6) | (refine wpList_append_own _ rfl _ _ 26 rfl (w5.heap.size + 1) 9 i0 (.string ByteArray.empty) 1 16 Try.underlying26 hi hz0 hz1 hz2 rfl (by decide) _ _ _ rfl (HO6.out.alloc _) ⟨w6.heap.size, 0, none⟩ 1 1 [.string T] rfl rfl (cell_one_new _ _ _) (by simp [Value.oneCell']) (by unfold maxLen; omega) (by omega) (by simp at hs6 ⊢; omega) ?_; intro v7 w7 ho7 hg7 _; have HO7 := Lib.hid ho7; have HG7 := Lib.hid hg7; clear ho7 hg7))
  obtain ⟨ba, hbae⟩ : ∃ ba, w5.heap.size = ba := ⟨_, rfl⟩
  rw [hbae] at HVA HBA hsa HO6 HO7 hs5 ⊢
  have hg6' := HG6.out
  rw [HWA.out] at hg6' hs6
  have hb6 : Below (ba + 1) wa w6 := (Below.refl _ _).grown hg6' (by omega) (fun b hb => by cases hb)
  have hb7 : Below (ba + 1) wa w7 := (hb6.alloc (by omega) _).grown HG7.out (by simp; omega) (fun b hb => (World.ownsRow.lt HO6.out b hb).1)
  have hs7 := hb7.size
  obtain ⟨m, hm⟩ : ∃ m, l ++ [T.data.toList] = m := ⟨_, rfl⟩
  have hml : m.length = n1 + 1 := by rw [← hm, List.length_append, HLN.out]; rfl
  have ho7 : w7.ownsRow (ba + 1) 9 1 v7 (n1 + 1) (m.map Cm.str) := by
    rw [← hm, List.map_append, List.map_singleton, ← HTE.out]; exact HO7.out
  obtain ⟨A7, c7, rfl, hci7⟩ := own_cells ho7
  have HCI7 := Lib.hid hci7
  have HB7 := Lib.hid hb7
  have HN7 := Lib.hid ((HN5.out.below (by rw [hbae]; exact HBA.out)).below (hb7.mono (by omega)))
  have HBW7 := Lib.hid (HB5.out.trans ((HBA.out.trans (hb7.mono (by omega))).mono hs5))
  have hTl : T.data.toList.length = T.size := by simp
  have hmz : ∀ x ∈ m, 1 ≤ x.length ∧ x.length ≤ 256 := fun x hx => by
    rw [← hm, List.mem_append] at hx
    rcases hx with hx | hx
    · exact HFW.out.2 x hx
    · simp at hx; subst hx; rw [hTl]; omega
  have HMZ := Lib.hid hmz
  have HML := Lib.hid hml
  have HM := Lib.hid hm
  have HV7 := Lib.hid (HVA.out.below hb7 (by omega))
  have HBAE := Lib.hid hbae
  have hba7 : ba < w7.heap.size := by omega
  have HC7 := Lib.hid (HCA.out.below (by rw [hsa]; exact hb7))
  clear hb6 hb7 hg6' ho7 hci7 hm hml hmz hTl HG6 HG7 HO6 HO7 hs6 hbae HCA HCI5 HCI4
  obtain ⟨r, hr⟩ : ∃ r, Vm.ofV 2 m = r := ⟨_, rfl⟩
  have O2 := Lib.hid (fun V h => hr ▸ mof_any 2 A7 (n1 + 1) c7 m V h (fun x hx => by have := (HMZ.out x hx).2; omega) (by omega))
  have HR2 := Lib.hid hr
  clear hr
  obtain ⟨p2, q2, e2⟩ := r
  refine (O2.out _ HCI7.out).mono ?_
  rintro e w8 ⟨v8, rfl, ho8, hb8⟩
  obtain ⟨A8, c8, rfl, hn8⟩ := own_names ho8
  have HN8 := Lib.hid hn8
  have HN7 := Lib.hid (HN7.out.below hb8)
  have HV8 := Lib.hid (HV7.out.below hb8 hba7)
  have HC8 := Lib.hid (HC7.out.below hb8)
  have hs8 := hb8.size
  have HB8 := Lib.hid (HBW7.out.trans (hb8.mono HBW7.out.size))
  clear ho8 hb8 hn8 HV7
  rcases Vm.ofV_two (num := 1) (by decide) (by decide) (by omega) HFW.out.2 with ⟨hx1, _⟩ | ⟨hx1, _⟩
  · rw [HR.out] at hx1
    injection hx1 with hp1 hx1
    injection hx1 with hq1 he1
    subst hp1 hq1 he1
    go_wp2_with fail
    go_ret
    exact ⟨rfl, HB8.out.alloc HB8.out.size _⟩
  rw [HR.out] at hx1
  injection hx1 with hp1 hx1
  injection hx1 with hq1 he1
  subst hp1 hq1 he1
  rcases Vm.ofV_two (num := 2) (by decide) (by decide) (by rw [HML.out]; omega) HMZ.out with ⟨hx2, _⟩ | ⟨hx2, hnc⟩
  · rw [HR2.out] at hx2
    injection hx2 with hp2 hx2
    injection hx2 with hq2 he2
    subst hp2 hq2 he2
    go_wp2_with fail
    go_ret
    exact ⟨rfl, HB8.out.alloc HB8.out.size _⟩
  rw [HR2.out] at hx2
  injection hx2 with hp2 hx2
  injection hx2 with hq2 he2
  subst hp2 hq2 he2
  have hl1 : (l.map Vm.nm).length = n1 := by rw [List.length_map, HLN.out]
  have hl2 : (m.map Vm.nm).length = n1 + 1 := by rw [List.length_map, HML.out]
  have hna := HN7.out
  have hnb := HN8.out
  have hva := HV8.out
  rw [hl1] at hna hva ⊢
  rw [hl2] at hnb ⊢
  obtain ⟨bb, hbbe⟩ : ∃ bb, w8.heap.size = bb := ⟨_, rfl⟩
  obtain ⟨w9, hw9⟩ : ∃ V, w8.alloc (.cells #[.int .i64 2, .slice A8 (n1 + 1) c8] 25) = V := ⟨_, rfl⟩
  have hvb9 : VB bb 2 (.slice A8 (n1 + 1) c8) w9 := by rw [← hw9, ← hbbe]; exact heap_alloc_new _ _
  have hb9 : Below bb w8 w9 := by rw [← hw9, ← hbbe]; exact (Below.refl _ _).alloc (Nat.le_refl _) _
  have hs9 : w9.heap.size = bb + 1 := by rw [← hw9]; simp [hbbe]
  have hva9 := hva.below hb9 (by omega)
  have HNA := Lib.hid (hna.below (by rw [hbbe]; exact hb9))
  have HNB := Lib.hid (hnb.below (by rw [hbbe]; exact hb9))
  have HB9 := Lib.hid (HB8.out.trans (hb9.mono (by have := HB8.out.size; omega)))
  have q0 := hva9.c0
  have q1 := hva9.c1
  have q2 := hvb9.c0
  have q3 := hvb9.c1
  have HVA9 := Lib.hid hva9
  have HVB9 := Lib.hid hvb9
  have HW9 := Lib.hid hw9
  have HNC := Lib.hid hnc
  have hbab : ba < bb := by omega
  have HC9 := Lib.hid (HC8.out.below (by rw [hbbe]; exact hb9))
  clear hna hnb hva hb9 hva9 hvb9 hw9 hnc hl1 hl2 HN7 HN8 HV8 HB8 hs8 hba7
  go_wp2_with fail
  rw [HW9.out]
  obtain ⟨t, ht⟩ : ∃ t, T.data.toList = t := ⟨_, rfl⟩
  have hTb : T = Cm.b t := Cm.b_eq ht
  have HTB := Lib.hid hTb
  have HMT := Lib.hid (show l ++ [t] = m by rw [← ht]; exact HM.out)
  have hts : T.size = t.length := by rw [← ht]; simp
  have HTS := Lib.hid hts
  clear hTb ht hts
  go_loopw [10, 59] (fun f i wr => ∃ j : Nat, j ≤ n1 ∧ i = .int .i64 j ∧ f = .bool (decide (t ∈ l.take j)) ∧ wr = w9) (fun f i _ => n1 - (intOf i).toNat)
  case atStart => exact ⟨0, by omega, rfl, by simp, rfl⟩
  case round =>
    obtain ⟨j, hj, rfl, rfl, rfl⟩ := hrel
    by_cases hlj : j < n1
    · have d9 : decide ((j : Int) < (n1 : Int)) = true := by simp; omega
      obtain ⟨g2, o2, rfl, hg2, hz2, y2⟩ := HC9.out.at hlj
      rw [List.getElem_map] at y2
      have hjl : j < l.length := by rw [HLN.out]; exact hlj
      obtain ⟨y, hy⟩ : ∃ y, Cm.b l[j] = y := ⟨_, rfl⟩
      unfold Cm.str at y2
      rw [hy] at y2
      have hts : decide (t ∈ l.take (j + 1)) = (decide (t ∈ l.take j) || decide (t = l[j])) := mem_take_succ l j hjl t
      cases hf : decide (t ∈ l.take j) with
      | true =>
        have HT := Lib.hid (show decide (t ∈ l.take (j + 1)) = true by rw [hts, hf]; rfl)
        clear hy hz2 hg2 hts hf
        go_wp2_with fail
        go_roundw
        case rel => exact ⟨j + 1, by omega, by go_num, by rw [HT.out], trivial⟩
        case measure => simp [intOf]; omega
      | false =>
        by_cases he : t = l[j]
        · have hxy : y = T := by rw [HTB.out, ← hy, he]
          subst hxy
          have HT := Lib.hid (show decide (t ∈ l.take (j + 1)) = true by rw [hts, hf, decide_eq_true he]; rfl)
          clear hy hz2 hg2 hts hf he
          go_wp2_with fail
          go_roundw
          case rel => exact ⟨j + 1, by omega, by go_num, by rw [HT.out], trivial⟩
          case measure => simp [intOf]; omega
        · have hxy : (y.toList == T.toList) = false := str_ne (fun e => he (Cm.b_inj (by rw [hy, e, ← HTB.out])))
          have HT := Lib.hid (show decide (t ∈ l.take (j + 1)) = false by rw [hts, hf, decide_eq_false he]; rfl)
          clear hy hz2 hg2 hts hf he
          go_wp2_with fail
          go_roundw
          case rel => exact ⟨j + 1, by omega, by go_num, by rw [HT.out], trivial⟩
          case measure => simp [intOf]; omega
    · obtain rfl : j = n1 := by omega
      have d9 : decide ((j : Int) < (j : Int)) = false := by simp
      rw [List.take_of_length_le (by rw [HLN.out]; exact Nat.le_refl _)]
      obtain ⟨th, hth⟩ : ∃ th, decide (t ∈ l) = th := ⟨_, rfl⟩
      have HTH := Lib.hid hth
      rw [hth]
      have hk1 : Vm.chk 1 (l.map Vm.nm) = 0 := (Vm.ofV_chk (num := 1) (l := l) (by rw [HR.out])).1
      have hk2 : Vm.chk 2 (m.map Vm.nm) = 0 := (Vm.ofV_chk (num := 2) (l := m) (by rw [HR2.out])).1
      have hin : Vm.wo (m.map Vm.nm) (l.map Vm.nm) = if t ∈ l then [] else [Vm.nm t] := by
        have h := Vm.app_in l t (by rw [HMT.out]; exact HNC.out)
        rw [HMT.out] at h; exact h
      have hout : Vm.wo (l.map Vm.nm) (m.map Vm.nm) = [] := by
        have h := Vm.app_out l t
        rw [HMT.out] at h; exact h
      have hchg : Vm.chg 1 (l.map Vm.nm) 2 (m.map Vm.nm) = (Vm.wo (m.map Vm.nm) (l.map Vm.nm), [], 0) := by
        unfold Vm.chg; rw [if_pos hk1, if_pos hk2, hout]
      obtain ⟨S, hS⟩ : ∃ S, l.flatten.length = S := ⟨_, rfl⟩
      have hs1 : Vm.siz 1 (l.map Vm.nm) = ((S : Int), 0) := by unfold Vm.siz; rw [if_pos hk1, Vm.sum2_flat, hS]
      have hs2 : Vm.siz 2 (m.map Vm.nm) = (((S + t.length : Nat) : Int), 0) := by
        unfold Vm.siz; rw [if_pos hk2, Vm.sum2_flat, ← HMT.out, List.flatten_append, List.length_append, hS]; simp
      have hS2 : S ≤ 60 := by rw [← hS]; exact HFW.out.1
      obtain ⟨d, hd⟩ : ∃ d, Vm.wo (m.map Vm.nm) (l.map Vm.nm) = d := ⟨_, rfl⟩
      rw [hd] at hchg hin
      have hdl : d.length = if th then 0 else 1 := by
        rw [hin]
        cases th with
        | true => rw [if_pos (of_decide_eq_true hth)]; rfl
        | false => rw [if_neg (of_decide_eq_false hth)]; rfl
      have G1 := Lib.hid (fun V h h' => hchg ▸ mchg_any 1 2 A5 A8 j (j + 1) c5 c8 (l.map Vm.nm) (m.map Vm.nm) V h h' (by omega) (by omega))
      have S1 := Lib.hid (fun V h => (by
        have h := msiz_any 1 A5 j c5 (l.map Vm.nm) V h (by omega)
        rw [hs1] at h
        exact h : Calls Try.prog 21 #[.agg #[.int .i64 1, .slice A5 j c5]] V fun e w' => e = .returned (.tuple #[.int .i64 (S : Nat), .int .i64 0]) ∧ Below V.heap.size V w'))
      have S2 := Lib.hid (fun V h => (by
        have h := msiz_any 2 A8 (j + 1) c8 (m.map Vm.nm) V h (by omega)
        rw [hs2] at h
        exact h : Calls Try.prog 21 #[.agg #[.int .i64 2, .slice A8 (j + 1) c8]] V fun e w' => e = .returned (.tuple #[.int .i64 ((S + t.length : Nat) : Int), .int .i64 0]) ∧ Below V.heap.size V w'))
      have HDL := Lib.hid hdl
      clear hth hk1 hk2 hin hout hchg hs1 hs2 hd hdl hS
      go_wp2_with fail
      refine (G1.out _ HNA.out HNB.out).mono ?_
      rintro e w10 ⟨vi, vo, rfl, hoi, hoo, hb10⟩
      obtain ⟨Ai, ci, rfl, _⟩ := own_names hoi
      obtain ⟨Ao, co, rfl, _⟩ := own_names hoo
      have HNA10 := Lib.hid (HNA.out.below hb10)
      have HNB10 := Lib.hid (HNB.out.below hb10)
      have hva := HVA9.out.below hb10 (by omega)
      have hvb := HVB9.out.below hb10 (by omega)
      have HB10 := Lib.hid (HB9.out.trans (hb10.mono HB9.out.size))
      have hs10 := hb10.size
      have HVA10 := Lib.hid hva
      have HVB10 := Lib.hid hvb
      have r0 := hva.c0
      have r1 := hva.c1
      clear hoi hoo hb10 hva hvb q0 q1 q2 q3
      go_wp2_with fail
      refine (S1.out _ HNA10.out).mono ?_
      rintro e w11 ⟨rfl, hb11⟩
      have HNB11 := Lib.hid (HNB10.out.below hb11)
      have hva := HVA10.out.below hb11 (by omega)
      have hvb := HVB10.out.below hb11 (by omega)
      have HB11 := Lib.hid (HB10.out.trans (hb11.mono HB10.out.size))
      have hs11 := hb11.size
      have HVA11 := Lib.hid hva
      have HVB11 := Lib.hid hvb
      clear r0 r1
      have r0 := hvb.c0
      have r1 := hvb.c1
      clear hva hvb hb11
      go_wp2_with fail
      refine (S2.out _ HNB11.out).mono ?_
      rintro e w12 ⟨rfl, hb12⟩
      have hva := HVA11.out.below hb12 (by omega)
      have hvb := HVB11.out.below hb12 (by omega)
      have HB12 := Lib.hid (HB11.out.trans (hb12.mono HB11.out.size))
      clear r0 r1
      have r0 := hvb.c1
      have r1 := hva.c1
      clear hva hvb hb12
      cases th with
      | true =>
        have hd0 : d.length = 0 := HDL.out
        have hts := HTS.out
        rw [hd0]
        go_wp2_with fail
        go_ret
        exact ⟨rfl, HB12.out⟩
      | false =>
        have hd0 : d.length = 1 := HDL.out
        have hts := HTS.out
        rw [hd0]
        go_wp2_with fail
        go_ret
        exact ⟨rfl, HB12.out⟩

end Go.Proofs.Ytebkgndcgcdogaa
