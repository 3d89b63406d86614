/-
  ChunkRest: its walk.
-/
import Derived.Test.YtenkloceonojeaaLawCB
namespace Go.Proofs.Ytenkloceonojeaa
open Go.RowKit
set_option maxHeartbeats 2000000

/-- the first elements of a slice, and what is behind them -/
theorem CellsIn.take {w : World} {A : Option Addr} {n c : Nat} {vs : List Value} (h : CellsIn w A n c vs) {k : Nat} (hk : k ≤ n) : CellsIn w A k c (vs.take k) := by
  obtain ⟨h1, h2, h3⟩ := h
  refine ⟨by rw [List.length_take]; omega, by omega, fun hn => ?_⟩
  obtain ⟨g, o, hA, hg, hc⟩ := h3 (by omega)
  exact ⟨g, o, hA, hg, fun i hi => by rw [List.length_take] at hi; rw [hc i (by omega), List.getElem_take]⟩
theorem CellsIn.drop {w : World} {g o n c : Nat} {vs : List Value} (h : CellsIn w (some ⟨g, o, none⟩) n c vs) {k : Nat} (hk : k < n) : CellsIn w (some ⟨g, o + k, none⟩) (n - k) (c - k) (vs.drop k) := by
  obtain ⟨h1, h2, h3⟩ := h
  obtain ⟨g', o', hA, hg, hc⟩ := h3 (by omega)
  injection hA with hA
  injection hA with e1 e2
  subst e1 e2
  refine ⟨by rw [List.length_drop]; omega, by omega, fun _ => ⟨g, o + k, rfl, hg, fun i hi => ?_⟩⟩
  rw [List.length_drop] at hi
  rw [List.getElem_drop, Nat.add_assoc]
  exact hc (k + i) (by omega)

set_option maxRecDepth 100000 in
theorem chunkRest_walk (A : Option Addr) (n c : Nat) (z : List Int) (at0 : Int) (mo : ByteArray) (w : World) (hz : IntsIn .i64 w A n c z) (hc : c * Try.prog.bytesOf 3 ≤ 140737488351232) (ha0 : 0 ≤ at0) (ha1 : at0 ≤ 255) (_ : mo.size ≤ 140737488351232) :
    Calls Try.prog 6 #[.slice A n c, .int .u8 at0, .string mo] w fun e w' => e = .returned (.bool true) ∧ Below w.heap.size w w' := by
  have hb8 : Try.prog.bytesOf 3 = 8 := by kernel_rfl
  rw [hb8] at hc
  have hnc := hz.2.1
  have hn : n ≤ 17592186044416 := by omega
  clear hb8 hc hnc
  have F1 := Lib.hid (fun V => few_any A n c V (by omega))
  have N1 := Lib.hid (fun V hb => new_any A n c w V hb)
  have K1 := Lib.hid (fun g V hd => cutting_any A n c z g w V hz hn hd)
  have T1 := Lib.hid (fun g V hd => mkText_any A n c z g w V 300 hz hn hd (by decide) (by decide))
  by_cases h500 : 500 < n
  · have d1 : decide ((n : Int) ≤ 500) = false := by simp; omega
    go_enter Try.func6, Try.ntmps6
    go_wp2_with fail
    refine (csane_any _).mono ?_
    rintro e w1 ⟨rfl, hB1⟩
    go_wp2_with fail
    refine (F1.out _).mono ?_
    rintro e w2 ⟨rfl, rfl⟩
    go_wp2
    go_ret
    exact ⟨rfl, hB1⟩
  have d1 : decide ((n : Int) ≤ 500) = true := by simp; omega
  by_cases hmo : 1000 < mo.size
  · go_enter Try.func6, Try.ntmps6
    go_wp2_with fail
    refine (csane_any _).mono ?_
    rintro e w1 ⟨rfl, hB1⟩
    go_wp2_with fail
    refine (F1.out _).mono ?_
    rintro e w2 ⟨rfl, rfl⟩
    go_wp2
    go_ret
    exact ⟨rfl, hB1⟩
  obtain ⟨a, rfl⟩ := Int.eq_ofNat_of_zero_le ha0
  clear hz h500
  go_enter Try.func6, Try.ntmps6
  go_wp2_with fail
  refine (csane_any _).mono ?_
  rintro e w1 ⟨rfl, hB1⟩
  go_wp2_with fail
  refine (F1.out _).mono ?_
  rintro e w2 ⟨rfl, rfl⟩
  go_wp2_with fail
  refine (N1.out _ hB1).mono ?_
  rintro e w2 ⟨rfl, hd2, _⟩
  obtain ⟨g, hg⟩ : ∃ g, w1.heap.size = g := ⟨_, rfl⟩
  rw [hg] at hd2 ⊢
  have HD2 := Lib.hid hd2
  clear hd2 hB1 hg
  go_wp2_with fail
  refine (K1.out g _ HD2.out).mono ?_
  rintro e w3 ⟨⟨L, M, W, K⟩, rfl, hok, hd3⟩
  unfold Cm.C.val Cm.C.cells
  simp only
  have HOK := Lib.hid hok
  have HD3 := Lib.hid hd3
  clear hok hd3 HD2
  go_wp2_with fail
  obtain ⟨cb, hcb⟩ : ∃ cb, w3.heap.size = cb := ⟨_, rfl⟩
  have hgl := HD3.out.lt
  have hcg : cb ≠ g := by omega
  have hbz : CutB cb L M W K (w3.alloc (.cells #[Value.int .i64 (L : Nat), .int .i64 (M : Nat), .int .i64 (W : Nat), .int .i64 (K : Nat)] 24)) := by rw [← hcb]; exact heap_alloc_new _ _
  have hda := HD3.out.alloc (.cells #[Value.int .i64 (L : Nat), .int .i64 (M : Nat), .int .i64 (W : Nat), .int .i64 (K : Nat)] 24)
  rw [hcb]
  generalize w3.alloc (.cells #[Value.int .i64 (L : Nat), .int .i64 (M : Nat), .int .i64 (W : Nat), .int .i64 (K : Nat)] 24) = wa at hbz hda ⊢
  have HBZ := Lib.hid hbz
  have HDA := Lib.hid hda
  clear hbz hda hcb HD3 hgl
  refine (T1.out g _ HDA.out).mono ?_
  rintro e wt1 ⟨T, rfl, hT, hd1, hk1⟩
  have HB1 := Lib.hid (show CutB cb L M W K wt1 from (hk1.2 cb (lt_of_block HBZ.out) hcg).trans HBZ.out)
  have HD1 := Lib.hid hd1
  clear hd1 hk1 HBZ HDA
  have hT : T.size ≤ 300 := hT
  have HW1 := Lib.hid HD1.out.1
  clear HD1 N1 F1 K1 T1
  have hT2 : T.size ≤ 1024 := by omega
  have C1 := Lib.hid (fun V => cut_short T L M W K V HOK.out hT2)
  have hl1 := (Cm.cutR_small HOK.out T.data.toList (by rw [size_list]; exact hT2)).1
  have hflat := Cm.cut_flat HOK.out T.data.toList
  have hsm := Cm.cut_small HOK.out T.data.toList
  have hdr := Cm.cut_drop HOK.out (c := ⟨L, M, W, K⟩)
  have hmr := Cm.cut_more HOK.out mo.data.toList T.data.toList
  obtain ⟨l, hl⟩ : ∃ l, Cm.cut ⟨L, M, W, K⟩ T.data.toList = l := ⟨_, rfl⟩
  rw [hl] at C1 hl1 hflat hsm hmr
  obtain ⟨m, hm⟩ : ∃ m, l.length = m := ⟨_, rfl⟩
  rw [hm] at C1 hl1 hmr
  simp only at hsm
  obtain ⟨q0, q1, q2, q3, _, _, _⟩ := CutB.s HB1.out
  go_wp2_with fail
  refine (C1.out _).mono ?_
  rintro e wa1 ⟨A1, k1, rfl, hci, hbe⟩
  have HB4 := Lib.hid (show CutB cb L M W K wa1 from (hbe.block cb (lt_of_block HB1.out)).trans HB1.out)
  have HC1 := Lib.hid hci
  have HW4 := Lib.hid (HW1.out.trans (hbe.mono HW1.out.size))
  have hmk := hci.2.1
  clear hci hbe q0 q1 q2 q3 HB1 HW1 C1
  by_cases hm0 : m = 0
  · have g0 : ((m : Int) == 0) = true := beq_iff_eq.2 (by omega)
    go_wp2
    go_ret
    exact ⟨rfl, HW4.out⟩
  have g0 : ((m : Int) == 0) = false := beq_eq_false_iff_ne.2 (by omega)
  obtain ⟨gl, ol, rfl, _, _, _⟩ := HC1.out.at (i := 0) (by omega)
  obtain ⟨k, hk⟩ : ∃ k, a % m = k := ⟨_, rfl⟩
  have hkm : k < m := by rw [← hk]; exact Nat.mod_lt _ (by omega)
  have e1 : (a : Int).tmod (m : Int) = (k : Int) := by rw [Int.tmod_eq_emod_of_nonneg (by omega), ← hk]; simp
  have e2 : ¬ (m : Int) = 0 := by omega
  have e3 : (0 : Int) ≤ (k : Int) := by omega
  have e4 : (k : Int) ≤ (k1 : Int) := by omega
  have e5 : (k : Int) ≤ (m : Int) := by omega
  have e6 : ¬ k1 = k := by omega
  have hkl : k ≤ l.length := by omega
  obtain ⟨B0, hB0⟩ : ∃ B0, Cm.b (l.take k).flatten = B0 := ⟨_, rfl⟩
  have hq := Cm.flat_take_le l k
  rw [hflat, size_list] at hq
  have hB0s : (l.take k).flatten.length = B0.size := by rw [← hB0]; rfl
  have J1 := Lib.hid (fun V (h : CellsIn V (some ⟨gl, ol, none⟩) k k1 ((l.take k).map Cm.str)) => (by
    have h1 := join_any (some ⟨gl, ol, none⟩) k k1 (l.take k) V h (by omega) (fun x hx => by have := (hsm x (List.mem_of_mem_take hx)).2; have := HOK.out.m256; simp only at this; omega)
    have h2 : Cm.joinR (l.take k) = ((l.take k).flatten, 0) := by unfold Cm.joinR; rw [if_pos (by omega)]
    rw [h2] at h1
    simp only [Cm.str, hB0] at h1
    exact h1 : Calls Try.prog 28 #[.slice (some ⟨gl, ol, none⟩) k k1] V fun e w' => e = .returned (.tuple #[.string B0, .int .i64 0]) ∧ Below V.heap.size V w'))
  have HT1 := Lib.hid (HC1.out.take (Nat.le_of_lt hkm))
  rw [← List.map_take] at HT1
  rw [hB0s] at hq
  obtain ⟨T2, hT2'⟩ : ∃ T2, T.extract B0.size T.size = T2 := ⟨_, rfl⟩
  have hT2l : T2.data.toList = T.data.toList.drop B0.size := by rw [← hT2']; exact Cm.drop_list T _
  have hT2s : T2.size ≤ 1024 := by rw [← hT2', ByteArray.size_extract]; omega
  have hcd : Cm.cut ⟨L, M, W, K⟩ T2.data.toList = l.drop k := by
    have h := hdr k T.data.toList (by rw [hl]; exact hkl)
    rw [hl, hB0s, ← hT2l] at h
    exact h
  have C2 := Lib.hid (fun V => (by have h := cut_short T2 L M W K V HOK.out hT2s; rw [hcd] at h; exact h : Calls Try.prog 17 #[.string T2, .agg #[.int .i64 (L : Nat), .int .i64 (M : Nat), .int .i64 (W : Nat), .int .i64 (K : Nat)]] V
    fun e w' => ∃ A c, e = .returned (.tuple #[.slice A (l.drop k).length c, .int .i64 0]) ∧ CellsIn w' A (l.drop k).length c ((l.drop k).map Cm.str) ∧ Below V.heap.size V w'))
  have hld : (l.drop k).length = m - k := by rw [List.length_drop, hm]
  rw [hld] at C2
  have b1 : (0 : Int) ≤ (B0.size : Int) := by omega
  have b2 : (B0.size : Int) ≤ (T.size : Int) := by omega
  obtain ⟨U, hU⟩ : ∃ U, T ++ mo = U := ⟨_, rfl⟩
  have c1 : ∀ V : World, (Op.stringOp .add T mo).run Try.prog V = .ok (.string U) V := fun V => by rw [← hU]; exact run_string_add_sum V T mo (by omega)
  have hUs : U.size ≤ 16384 := by rw [← hU, ByteArray.size_append]; omega
  have hUl : U.data.toList = T.data.toList ++ mo.data.toList := by rw [← hU]; simp
  rw [← hUl] at hmr
  have HMR := Lib.hid hmr
  have HM := Lib.hid hm
  clear hl hm hk hflat hsm hdr hmr hB0 hB0s hT2l hcd hld hU hUl hkl
  go_wp2_with fail
  refine (J1.out _ HT1.out).mono ?_
  rintro e wa2 ⟨rfl, hbe⟩
  have HB5 := Lib.hid (show CutB cb L M W K wa2 from (hbe.block cb (lt_of_block HB4.out)).trans HB4.out)
  have HC2 := Lib.hid (HC1.out.below hbe)
  have HW5 := Lib.hid (HW4.out.trans (hbe.mono HW4.out.size))
  clear hbe HB4 HW4 HC1 J1 HT1
  go_wp2_with fail
  obtain ⟨q0, q1, q2, q3, _, _, _⟩ := CutB.s (CutB.drew HB5.out)
  go_region_held3 (fun V => V.cell? ⟨cb, 0, none⟩ = some (.int .i64 (L : Nat)) ∧ V.cell? ⟨cb, 1, none⟩ = some (.int .i64 (M : Nat)) ∧ V.cell? ⟨cb, 2, none⟩ = some (.int .i64 (W : Nat)) ∧ V.cell? ⟨cb, 3, none⟩ = some (.int .i64 (K : Nat))) (first | exact ⟨by assumption, by assumption, by assumption, by assumption⟩) ((go_at_call 17; (with_reducible refine (C2.out _).mono ?_); rintro e wc ⟨A2, c2, rfl, hci, hbe⟩; have hbk : CutB cb L M W K wc := (hbe.block cb (lt_of_block HB5.out)).trans HB5.out; obtain ⟨r0, r1, r2, r3, _, _, _⟩ := CutB.s hbk))
  have HB6 := Lib.hid hbk
  have hbe2 : Below wa2.heap.size wa2 wc := ((Below.refl wa2.heap.size wa2).drew).trans hbe
  have HC3 := Lib.hid (HC2.out.below hbe2)
  have HR3 := Lib.hid hci
  have HW6 := Lib.hid (HW5.out.trans (hbe2.mono HW5.out.size))
  clear q0 q1 q2 q3 r0 r1 r2 r3 hbk hci hbe hbe2 HB5 HC2 HW5 C2
  obtain ⟨q0, q1, q2, q3, _, _, _⟩ := CutB.s HB6.out
  have hUc := Cm.cutV_ok (c := ⟨L, M, W, K⟩) HOK.out U.data.toList
  simp only at hUc
  have K3 := fun V => cut_any U L M W K V hUs
  rw [hUc] at K3
  have hUg := Cm.cutR_good HOK.out U.data.toList
  have hgm := HMR.out
  obtain ⟨lu, hlu⟩ : ∃ lu, Cm.cut ⟨L, M, W, K⟩ U.data.toList = lu := ⟨_, rfl⟩
  have S1 := Lib.hid (fun V A c A' c' (h : CellsIn V A (m - k) c ((l.drop k).map Cm.str)) (h' : CellsIn V A' (m - k) c' ((l.map Cm.str).drop k)) => csame_any A A' (m - k) (m - k) c c' (l.drop k) (l.drop k) V h (by rw [List.map_drop]; exact h') (by omega) (by omega))
  have D1 := Lib.hid (show decide (l.drop k = l.drop k) = true from decide_eq_true rfl)
  by_cases h256 : (Cm.cut ⟨L, M, W, K⟩ U.data.toList).length ≤ 256
  · have hcr : Cm.cutR ⟨L, M, W, K⟩ U.data.toList = (lu, 0) := by unfold Cm.cutR; rw [if_pos h256, hlu]
    rw [hcr] at K3
    rw [hlu] at h256 hgm
    obtain ⟨mu, hmu⟩ : ∃ mu, lu.length = mu := ⟨_, rfl⟩
    rw [hmu] at h256 hgm
    obtain ⟨g1, g2⟩ := hgm
    have C3 := Lib.hid (fun V => (by
      refine Calls.mono (K3 V) ?_
      rintro e w' ⟨v, rfl, ho, hb⟩
      obtain ⟨A, c, rfl, hci⟩ := own_cells ho
      simp only [hmu] at hci
      exact ⟨A, c, by rw [hmu], hci, hb⟩ : Calls Try.prog 17 #[.string U, .agg #[.int .i64 (L : Nat), .int .i64 (M : Nat), .int .i64 (W : Nat), .int .i64 (K : Nat)]] V fun e w' => ∃ A c, e = .returned (.tuple #[.slice A mu c, .int .i64 0]) ∧ CellsIn w' A mu c (lu.map Cm.str) ∧ Below V.heap.size V w'))
    have HG2 := Lib.hid g2
    have S2 := Lib.hid (fun V A c A' c' (h : CellsIn V A mu c (lu.map Cm.str)) (h' : CellsIn V A' m c' (l.map Cm.str)) => (by
      have h1 := h.take g1
      have h2 := h'.take (show m - 1 ≤ m by omega)
      rw [← List.map_take] at h1 h2
      have h3 := csame_any A A' (m - 1) (m - 1) c c' _ _ V h1 h2 (by omega) (by omega)
      rw [decide_eq_true g2] at h3
      exact h3 : Calls Try.prog 23 #[.slice A (m - 1 : Nat) c, .slice A' (m - 1 : Nat) c'] V fun e w' => e = .returned (.bool true) ∧ Below V.heap.size V w'))
    obtain ⟨m1, hm1⟩ : ∃ m1, m - 1 = m1 := ⟨_, rfl⟩
    rw [hm1] at S2 g1
    have j1 : (m : Int) - 1 = (m1 : Int) := by omega
    have j2 : (m1 : Int) ≤ (mu : Int) := by omega
    have j3 : (0 : Int) ≤ (m1 : Int) := by omega
    have j5 : (m1 : Int) ≤ (k1 : Int) := by omega
    clear hcr hmu hlu K3 hUc hUg g2 hm1
    go_wp2_with fail
    refine (C3.out _).mono ?_
    rintro e wd ⟨A3, c3, rfl, hci, hbe⟩
    have HC4 := Lib.hid (HC3.out.below hbe)
    have HR4 := Lib.hid (HR3.out.below hbe)
    have HU4 := Lib.hid hci
    have HW7 := Lib.hid (HW6.out.trans (hbe.mono HW6.out.size))
    have j4 : (m1 : Int) ≤ (c3 : Int) := by have := hci.2.1; omega
    clear hci hbe q0 q1 q2 q3 HB6 HC3 HR3 HW6 C3
    go_wp2_with fail
    refine (S1.out _ _ _ _ _ HR4.out (HC4.out.drop hkm)).mono ?_
    rintro e we ⟨rfl, hbe⟩
    rw [D1.out]
    have HC5 := Lib.hid (HC4.out.below hbe)
    have HU5 := Lib.hid (HU4.out.below hbe)
    have HW8 := Lib.hid (HW7.out.trans (hbe.mono HW7.out.size))
    clear hbe HC4 HU4 HR4 HW7 S1
    go_wp2_with fail
    refine wp_region_below we.heap.size (by kernel_rfl) (by kernel_rfl) ?_
    repeat (go_big_quiet_step ((go_at_call 23; exact Calls.ext_of _ (Nat.le_refl _) (S2.out _ _ _ _ _ (HU5.out.below (Subtype.property _)) (HC5.out.below (Subtype.property _))))))
    refine wpQuiet_nil ?_
    intro wf hbf
    have HW9 := Lib.hid (HW8.out.trans (hbf.mono HW8.out.size))
    clear hbf
    go_wp2_with fail
    go_ret
    exact ⟨rfl, HW9.out⟩
  · have hcr : Cm.cutR ⟨L, M, W, K⟩ U.data.toList = ([], 4) := by unfold Cm.cutR; rw [if_neg h256]
    rw [hcr] at K3
    have C3 := Lib.hid (fun V => (by
      refine Calls.mono (K3 V) ?_
      rintro e w' ⟨v, rfl, ho, hb⟩
      obtain ⟨A, c, rfl, hci⟩ := own_cells ho
      exact ⟨A, c, rfl, hb⟩ : Calls Try.prog 17 #[.string U, .agg #[.int .i64 (L : Nat), .int .i64 (M : Nat), .int .i64 (W : Nat), .int .i64 (K : Nat)]] V fun e w' => ∃ A c, e = .returned (.tuple #[.slice A 0 c, .int .i64 4]) ∧ Below V.heap.size V w'))
    clear hcr hlu K3 hUc hUg hgm h256
    go_wp2_with fail
    refine (C3.out _).mono ?_
    rintro e wd ⟨A3, c3, rfl, hbe⟩
    have HC4 := Lib.hid (HC3.out.below hbe)
    have HR4 := Lib.hid (HR3.out.below hbe)
    have HW7 := Lib.hid (HW6.out.trans (hbe.mono HW6.out.size))
    clear hbe q0 q1 q2 q3 HB6 HC3 HR3 HW6 C3
    go_wp2_with fail
    refine (S1.out _ _ _ _ _ HR4.out (HC4.out.drop hkm)).mono ?_
    rintro e we ⟨rfl, hbe⟩
    rw [D1.out]
    have HW8 := Lib.hid (HW7.out.trans (hbe.mono HW7.out.size))
    clear hbe HC4 HR4 HW7 S1
    go_wp2_with fail
    go_quiet (fail)
    go_wp2_with fail
    go_ret
    exact ⟨rfl, HW8.out.trans ⟨rfl, rfl, rfl, Nat.le_refl _, fun _ _ => rfl⟩⟩

end Go.Proofs.Ytenkloceonojeaa
