/-
  ChunkBack: its walk.
-/
import Derived.Test.YtenkloceonojeaaLawCS
import Derived.Test.YtenkloceonojeaaChJ
namespace Go.Proofs.Ytenkloceonojeaa
open Go.RowKit
set_option maxHeartbeats 2000000

/-- all chunks but the last one have as many bytes as the least -/
theorem Cm.chunk_ge {c : Cm.C} (hc : c.ok) (s : List UInt8) (i : Nat) (h : i < (Cm.cut c s).length) (hi : i + 1 < (Cm.cut c s).length) : c.L ≤ ((Cm.cut c s)[i]).length := by
  obtain ⟨r, _, _, hx, _, hl⟩ := Cm.cut_at hc i s h
  have h1 := hl hi
  have := Cm.fl_L hc h1
  rw [hx, List.length_take]
  omega

set_option maxRecDepth 100000 in
theorem chunkBack_walk (A : Option Addr) (n c : Nat) (z : List Int) (w : World) (hz : IntsIn .i64 w A n c z) (hc : c * Try.prog.bytesOf 3 ≤ 140737488351232) :
    Calls Try.prog 5 #[.slice A n c] w fun e w' => e = .returned (.bool true) ∧ Below w.heap.size w w' := by
  have hb8 : Try.prog.bytesOf 3 = 8 := by kernel_rfl
  rw [hb8] at hc
  have hnc := hz.2.1
  have hn : n ≤ 17592186044416 := by omega
  clear hb8 hc hnc
  have F1 := Lib.hid (fun V => few_any A n c V (by omega))
  have N1 := Lib.hid (fun V hb => new_any A n c w V hb)
  have K1 := Lib.hid (fun g V hd => cutting_any A n c z g w V hz hn hd)
  have T1 := Lib.hid (fun g V hd => mkText_any A n c z g w V 400 hz hn hd (by decide) (by decide))
  by_cases h500 : 500 < n
  · have d1 : decide ((n : Int) ≤ 500) = false := by simp; omega
    go_enter Try.func5, Try.ntmps5
    go_wp2_with fail
    refine (csane_any _).mono ?_
    rintro e w1 ⟨rfl, hB1⟩
    go_wp2_with fail
    refine (F1.out _).mono ?_
    rintro e w2 ⟨rfl, rfl⟩
    go_wp2
    go_ret
    exact ⟨rfl, hB1⟩
  have d1 : decide ((n : Int) ≤ 500) = true := by simp; omega
  clear hz h500
  go_enter Try.func5, Try.ntmps5
  go_wp2_with fail
  refine (csane_any _).mono ?_
  rintro e w1 ⟨rfl, hB1⟩
  go_wp2_with fail
  refine (F1.out _).mono ?_
  rintro e w2 ⟨rfl, rfl⟩
  go_wp2_with fail
  refine (N1.out _ hB1).mono ?_
  rintro e w2 ⟨rfl, hd2, _⟩
  obtain ⟨g, hg⟩ : ∃ g, w1.heap.size = g := ⟨_, rfl⟩
  rw [hg] at hd2 ⊢
  have HD2 := Lib.hid hd2
  clear hd2 hB1 hg
  go_wp2_with fail
  refine (K1.out g _ HD2.out).mono ?_
  rintro e w3 ⟨⟨L, M, W, K⟩, rfl, hok, hd3⟩
  unfold Cm.C.val Cm.C.cells
  simp only
  have HOK := Lib.hid hok
  have HD3 := Lib.hid hd3
  clear hok hd3 HD2
  go_wp2_with fail
  obtain ⟨cb, hcb⟩ : ∃ cb, w3.heap.size = cb := ⟨_, rfl⟩
  have hgl := HD3.out.lt
  have hcg : cb ≠ g := by omega
  have hbz : CutB cb L M W K (w3.alloc (.cells #[Value.int .i64 (L : Nat), .int .i64 (M : Nat), .int .i64 (W : Nat), .int .i64 (K : Nat)] 24)) := by rw [← hcb]; exact heap_alloc_new _ _
  have hda := HD3.out.alloc (.cells #[Value.int .i64 (L : Nat), .int .i64 (M : Nat), .int .i64 (W : Nat), .int .i64 (K : Nat)] 24)
  rw [hcb]
  generalize w3.alloc (.cells #[Value.int .i64 (L : Nat), .int .i64 (M : Nat), .int .i64 (W : Nat), .int .i64 (K : Nat)] 24) = wa at hbz hda ⊢
  have HBZ := Lib.hid hbz
  have HDA := Lib.hid hda
  clear hbz hda hcb HD3 hgl
  refine (T1.out g _ HDA.out).mono ?_
  rintro e wt1 ⟨T, rfl, hT, hd1, hk1⟩
  have HB1 := Lib.hid (show CutB cb L M W K wt1 from (hk1.2 cb (lt_of_block HBZ.out) hcg).trans HBZ.out)
  have HD1 := Lib.hid hd1
  clear hd1 hk1 HBZ HDA
  have hT : T.size ≤ 400 := hT
  have HW1 := Lib.hid HD1.out.1
  clear HD1 N1 F1 K1 T1
  have hT2 : T.size ≤ 1024 := by omega
  have C1 := Lib.hid (fun V => cut_short T L M W K V HOK.out hT2)
  have E1 := Lib.hid (fun V => ends_short T L M W K V HOK.out hT2)
  have hl1 := (Cm.cutR_small HOK.out T.data.toList (by rw [size_list]; exact hT2)).1
  have hflat := Cm.cut_flat HOK.out T.data.toList
  have hsm := Cm.cut_small HOK.out T.data.toList
  have hge := Cm.chunk_ge HOK.out T.data.toList
  unfold Cm.ends at E1
  obtain ⟨l, hl⟩ : ∃ l, Cm.cut ⟨L, M, W, K⟩ T.data.toList = l := ⟨_, rfl⟩
  rw [hl] at C1 E1 hl1 hflat hsm hge
  obtain ⟨m, hm⟩ : ∃ m, l.length = m := ⟨_, rfl⟩
  rw [hm] at C1 E1 hl1
  simp only at hsm hge
  have J1 := Lib.hid (fun V A' c' (h : CellsIn V A' m c' (l.map Cm.str)) => (by
    have h1 := join_any A' m c' l V h (by omega) (fun x hx => by have := (hsm x hx).2; have := HOK.out.m256; simp only at this; omega)
    have h2 : Cm.joinR l = (T.data.toList, 0) := by unfold Cm.joinR; rw [if_pos (by rw [hflat, size_list]; omega), hflat]
    rw [h2] at h1
    simp only [Cm.str, Cm.b_of] at h1
    exact h1 : Calls Try.prog 28 #[.slice A' m c'] V fun e w' => e = .returned (.tuple #[.string T, .int .i64 0]) ∧ Below V.heap.size V w'))
  have HFL := Lib.hid (fun k => Nat.le_trans (Cm.flat_take_le l k) (show l.flatten.length ≤ 400 by rw [hflat, size_list]; exact hT))
  have HM := Lib.hid hm
  have HSM := Lib.hid hsm
  have HGE := Lib.hid hge
  clear hl hm hflat hsm hge
  obtain ⟨q0, q1, q2, q3, _, _, _⟩ := CutB.s HB1.out
  go_wp2_with fail
  refine (C1.out _).mono ?_
  rintro e wa1 ⟨A1, k1, rfl, hci, hbe⟩
  have HB4 := Lib.hid (show CutB cb L M W K wa1 from (hbe.block cb (lt_of_block HB1.out)).trans HB1.out)
  have HC1 := Lib.hid hci
  have HW4 := Lib.hid (HW1.out.trans (hbe.mono HW1.out.size))
  clear hci hbe q0 q1 q2 q3 HB1 HW1
  obtain ⟨q0, q1, q2, q3, _, _, _⟩ := CutB.s HB4.out
  go_wp2_with fail
  refine (E1.out _).mono ?_
  rintro e wa2 ⟨A2, k2, rfl, hci, hbe⟩
  have HB5 := Lib.hid (show CutB cb L M W K wa2 from (hbe.block cb (lt_of_block HB4.out)).trans HB4.out)
  have HC2 := Lib.hid hci
  have HC1' := Lib.hid (HC1.out.below hbe)
  have HW5 := Lib.hid (HW4.out.trans (hbe.mono HW4.out.size))
  clear hci hbe q0 q1 q2 q3 HB4 HW4 HC1
  go_wp2_with fail
  refine (J1.out _ _ _ HC1'.out).mono ?_
  rintro e wa3 ⟨rfl, hbe⟩
  have HB6 := Lib.hid (show CutB cb L M W K wa3 from (hbe.block cb (lt_of_block HB5.out)).trans HB5.out)
  have HC3 := Lib.hid (HC1'.out.below hbe)
  have HC4 := Lib.hid (HC2.out.below hbe)
  have HW6 := Lib.hid (HW5.out.trans (hbe.mono HW5.out.size))
  clear hbe HB5 HW5 HC1' HC2 E1 C1 J1
  obtain ⟨q0, q1, q2, q3, _, _, _⟩ := CutB.s HB6.out
  go_wp2_with fail
  go_loop [12, 67] (fun v i => ∃ k : Nat, k ≤ m ∧ v = .int .i64 ((l.take k).flatten.length : Nat) ∧ i = .int .i64 k) (fun v i => m - (intOf i).toNat)
  case atStart => exact ⟨0, by omega, rfl, rfl⟩
  case round =>
    obtain ⟨k, hk, rfl, rfl⟩ := hrel
    by_cases hlt : k < m
    · obtain ⟨gl, o, rfl, hgl, hzl, g1⟩ := HC3.out.at hlt
      obtain ⟨gl', o', rfl, hgl', hzl', g2⟩ := HC4.out.at hlt
      rw [List.getElem_map] at g1
      rw [List.getElem_map, Cm.endsF_get, Nat.zero_add] at g2
      have hkl : k < l.length := by rw [HM.out]; exact hlt
      have hxs := HSM.out _ (List.getElem_mem hkl)
      have hxg := HGE.out k hkl
      have hft := Cm.flat_take l k hkl
      have hfm := HFL.out (k + 1)
      obtain ⟨x, hx⟩ : ∃ x, l[k] = x := ⟨_, rfl⟩
      rw [hx] at g1 hxs hxg hft
      obtain ⟨X, hX⟩ : ∃ X, Cm.b x = X := ⟨_, rfl⟩
      have hXs : x.length = X.size := by rw [← hX]; rfl
      unfold Cm.str at g1
      rw [hX] at g1
      rw [hXs] at hxs hxg hft
      rw [HM.out] at hxg
      obtain ⟨q, hq⟩ : ∃ q, (l.take k).flatten.length = q := ⟨_, rfl⟩
      obtain ⟨r, hr⟩ : ∃ r, (l.take (k + 1)).flatten.length = r := ⟨_, rfl⟩
      rw [hr] at hft hfm g2
      rw [hq] at hft ⊢
      have i0 : (0 : Int) ≤ (k : Int) := by omega
      have i1 : (k : Int) < (m : Int) := by omega
      have i2 : (q : Int) + (X.size : Int) = (r : Int) := by omega
      have t1 : decide ((X.size : Int) < 1) = false := by simp; omega
      have t2 : decide ((M : Int) < (X.size : Int)) = false := by simp; omega
      have HRR := Lib.hid hr
      obtain ⟨hx1, hx2⟩ := hxs
      clear hx hX hXs hkl hzl hgl hzl' hgl' hq hr hft
      by_cases hlast : k + 1 < m
      · have d2 : (k : Int) < (m : Int) - 1 := by omega
        have hxL := hxg hlast
        have d3 : decide ((X.size : Int) < (L : Int)) = false := by simp; omega
        clear hxg
        go_wp2
        go_round
        case rel => exact ⟨k + 1, by omega, by rw [HRR.out], by go_num⟩
        case measure => simp [intOf]; omega
      · have d2 : decide ((k : Int) < (m : Int) - 1) = false := by simp; omega
        clear hxg
        go_wp2
        go_round
        case rel => exact ⟨k + 1, by omega, by rw [HRR.out], by go_num⟩
        case measure => simp [intOf]; omega
    · obtain rfl : k = m := by omega
      go_wp2
      go_ret
      exact ⟨rfl, HW6.out⟩

end Go.Proofs.Ytenkloceonojeaa
