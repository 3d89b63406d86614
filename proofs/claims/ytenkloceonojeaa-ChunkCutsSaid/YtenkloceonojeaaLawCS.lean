/-
  ChunkShares: its walk.
-/
import Derived.Test.YtenkloceonojeaaLawCW
import Derived.Test.YtenkloceonojeaaChI
namespace Go.Proofs.Ytenkloceonojeaa
open Go.RowKit
set_option maxHeartbeats 2000000

/-- Ends of a short text at a valid cutting -/
theorem ends_short (s : ByteArray) (L M W K : Nat) (w : World) (hc : Cm.C.ok ⟨L, M, W, K⟩) (hs : s.size ≤ 1024) :
    Calls Try.prog 19 #[.string s, .agg #[.int .i64 (L : Nat), .int .i64 (M : Nat), .int .i64 (W : Nat), .int .i64 (K : Nat)]] w
      fun e w' => ∃ A c, e = .returned (.tuple #[.slice A (Cm.cut ⟨L, M, W, K⟩ s.data.toList).length c, .int .i64 0]) ∧ CellsIn w' A (Cm.cut ⟨L, M, W, K⟩ s.data.toList).length c ((Cm.ends ⟨L, M, W, K⟩ s.data.toList).map (Value.int .i64)) ∧ Below w.heap.size w w' := by
  have h := ends_any s L M W K w (by omega)
  have hv := Cm.cutV_ok (c := ⟨L, M, W, K⟩) hc s.data.toList
  simp only at hv
  rw [hv, (Cm.cutR_small hc s.data.toList (by rw [size_list]; exact hs)).2] at h
  refine Calls.mono h ?_
  rintro e w' ⟨v, rfl, hown, hb⟩
  obtain ⟨A, c, rfl, hci⟩ := own_cells hown
  simp only [Cm.endsF_length] at hci
  exact ⟨A, c, by rw [Cm.endsF_length], hci, hb⟩
theorem common_short (s t : ByteArray) (L M W K : Nat) (w : World) (hc : Cm.C.ok ⟨L, M, W, K⟩) (hs : s.size ≤ 1024) (ht : t.size ≤ 1024) :
    Calls Try.prog 21 #[.string s, .string t, .agg #[.int .i64 (L : Nat), .int .i64 (M : Nat), .int .i64 (W : Nat), .int .i64 (K : Nat)]] w
      fun e w' => e = .returned (.tuple #[.int .i64 (Cm.common (Cm.cut ⟨L, M, W, K⟩ s.data.toList) (Cm.cut ⟨L, M, W, K⟩ t.data.toList) : Nat), .int .i64 0]) ∧ Below w.heap.size w w' := by
  have h := common_any s t L M W K w (by omega) (by omega)
  have hv := Cm.cutV_ok (c := ⟨L, M, W, K⟩) hc s.data.toList
  have hv' := Cm.cutV_ok (c := ⟨L, M, W, K⟩) hc t.data.toList
  simp only at hv hv'
  rw [hv, hv', (Cm.cutR_small hc s.data.toList (by rw [size_list]; exact hs)).2, (Cm.cutR_small hc t.data.toList (by rw [size_list]; exact ht)).2] at h
  exact h
/-- what is behind a common end is in common -/
theorem Cm.shares {c : Cm.C} (hc : c.ok) (a b r : List UInt8) (i j : Nat) (hi : i < (Cm.cut c (a ++ r)).length) (hj : j < (Cm.cut c (b ++ r)).length) (x y : Nat)
    (hx : ((Cm.cut c (a ++ r)).take (i + 1)).flatten.length = x) (hy : ((Cm.cut c (b ++ r)).take (j + 1)).flatten.length = y) (hxa : a.length ≤ x) (hyb : b.length ≤ y) (he : x - a.length = y - b.length) :
    (Cm.cut c (a ++ r)).length - 1 - i ≤ Cm.common (Cm.cut c (a ++ r)) (Cm.cut c (b ++ r)) := by
  have h1 := Cm.cut_drop hc (i + 1) (a ++ r) (by omega)
  have h2 := Cm.cut_drop hc (j + 1) (b ++ r) (by omega)
  rw [hx] at h1
  rw [hy] at h2
  have d1 : (a ++ r).drop x = r.drop (x - a.length) := by rw [List.drop_append, List.drop_of_length_le hxa, List.nil_append]
  have d2 : (b ++ r).drop y = r.drop (y - b.length) := by rw [List.drop_append, List.drop_of_length_le hyb, List.nil_append]
  rw [d1] at h1
  rw [d2, ← he, h1] at h2
  have e1 : Cm.cut c (a ++ r) = (Cm.cut c (a ++ r)).take (i + 1) ++ (Cm.cut c (a ++ r)).drop (i + 1) := (List.take_append_drop _ _).symm
  have e2 : Cm.cut c (b ++ r) = (Cm.cut c (b ++ r)).take (j + 1) ++ (Cm.cut c (a ++ r)).drop (i + 1) := by
    rw [h2]; exact (List.take_append_drop _ _).symm
  have h3 := Cm.common_ge e1 e2
  have h4 : ((Cm.cut c (a ++ r)).drop (i + 1)).length = (Cm.cut c (a ++ r)).length - (i + 1) := List.length_drop
  omega

set_option maxRecDepth 100000 in
theorem chunkShares_walk (A : Option Addr) (n c : Nat) (z : List Int) (at0 : Int) (w : World) (hz : IntsIn .i64 w A n c z) (hc : c * Try.prog.bytesOf 3 ≤ 140737488351232) (_ : 0 ≤ at0) (_ : at0 ≤ 255) :
    Calls Try.prog 7 #[.slice A n c, .int .u8 at0] w fun e w' => e = .returned (.bool true) ∧ Below w.heap.size w w' := by
  have hb8 : Try.prog.bytesOf 3 = 8 := by kernel_rfl
  rw [hb8] at hc
  have hnc := hz.2.1
  have hn : n ≤ 17592186044416 := by omega
  clear hb8 hc hnc
  have F1 := Lib.hid (fun V => few_any A n c V (by omega))
  have N1 := Lib.hid (fun V hb => new_any A n c w V hb)
  have K1 := Lib.hid (fun g V hd => cutting_any A n c z g w V hz hn hd)
  have T1 := Lib.hid (fun g V hd => mkText_any A n c z g w V 100 hz hn hd (by decide) (by decide))
  by_cases h500 : 500 < n
  · have d1 : decide ((n : Int) ≤ 500) = false := by simp; omega
    go_enter Try.func7, Try.ntmps7
    go_wp2_with fail
    refine (csane_any _).mono ?_
    rintro e w1 ⟨rfl, hB1⟩
    go_wp2_with fail
    refine (F1.out _).mono ?_
    rintro e w2 ⟨rfl, rfl⟩
    go_wp2
    go_ret
    exact ⟨rfl, hB1⟩
  have d1 : decide ((n : Int) ≤ 500) = true := by simp; omega
  clear hz h500
  go_enter Try.func7, Try.ntmps7
  go_wp2_with fail
  refine (csane_any _).mono ?_
  rintro e w1 ⟨rfl, hB1⟩
  go_wp2_with fail
  refine (F1.out _).mono ?_
  rintro e w2 ⟨rfl, rfl⟩
  go_wp2_with fail
  refine (N1.out _ hB1).mono ?_
  rintro e w2 ⟨rfl, hd2, _⟩
  obtain ⟨g, hg⟩ : ∃ g, w1.heap.size = g := ⟨_, rfl⟩
  rw [hg] at hd2 ⊢
  have HD2 := Lib.hid hd2
  clear hd2 hB1 hg
  go_wp2_with fail
  refine (K1.out g _ HD2.out).mono ?_
  rintro e w3 ⟨⟨L, M, W, K⟩, rfl, hok, hd3⟩
  unfold Cm.C.val Cm.C.cells
  simp only
  have HOK := Lib.hid hok
  have HD3 := Lib.hid hd3
  clear hok hd3 HD2
  go_wp2_with fail
  obtain ⟨cb, hcb⟩ : ∃ cb, w3.heap.size = cb := ⟨_, rfl⟩
  have hgl := HD3.out.lt
  have hcg : cb ≠ g := by omega
  have hbz : CutB cb L M W K (w3.alloc (.cells #[Value.int .i64 (L : Nat), .int .i64 (M : Nat), .int .i64 (W : Nat), .int .i64 (K : Nat)] 24)) := by rw [← hcb]; exact heap_alloc_new _ _
  have hda := HD3.out.alloc (.cells #[Value.int .i64 (L : Nat), .int .i64 (M : Nat), .int .i64 (W : Nat), .int .i64 (K : Nat)] 24)
  rw [hcb]
  generalize w3.alloc (.cells #[Value.int .i64 (L : Nat), .int .i64 (M : Nat), .int .i64 (W : Nat), .int .i64 (K : Nat)] 24) = wa at hbz hda ⊢
  have HBZ := Lib.hid hbz
  have HDA := Lib.hid hda
  clear hbz hda hcb HD3 hgl
  refine (T1.out g _ HDA.out).mono ?_
  rintro e wt1 ⟨a, rfl, ha, hd1, hk1⟩
  have HB1 := Lib.hid (show CutB cb L M W K wt1 from (hk1.2 cb (lt_of_block HBZ.out) hcg).trans HBZ.out)
  have HD1 := Lib.hid hd1
  clear hd1 hk1 HBZ HDA
  go_wp2_with fail
  refine (T1.out g _ HD1.out).mono ?_
  rintro e wt2 ⟨b, rfl, hb, hd1, hk1⟩
  have HB2 := Lib.hid (show CutB cb L M W K wt2 from (hk1.2 cb (lt_of_block HB1.out) hcg).trans HB1.out)
  have HD2 := Lib.hid hd1
  clear hd1 hk1 HB1 HD1
  go_wp2_with fail
  refine (T1.out g _ HD2.out).mono ?_
  rintro e wt3 ⟨r, rfl, hr, hd1, hk1⟩
  have HB3 := Lib.hid (show CutB cb L M W K wt3 from (hk1.2 cb (lt_of_block HB2.out) hcg).trans HB2.out)
  have HW3 := Lib.hid hd1.1
  clear hd1 hk1 HB2 HD2 N1 F1 K1 T1
  have ha : a.size ≤ 100 := ha
  have hb : b.size ≤ 100 := hb
  have hr : r.size ≤ 100 := hr
  obtain ⟨ar, har⟩ : ∃ ar, a ++ r = ar := ⟨_, rfl⟩
  obtain ⟨br, hbr⟩ : ∃ br, b ++ r = br := ⟨_, rfl⟩
  have c1 : ∀ V : World, (Op.stringOp .add a r).run Try.prog V = .ok (.string ar) V := fun V => by rw [← har]; exact run_string_add_sum V a r (by omega)
  have c2 : ∀ V : World, (Op.stringOp .add b r).run Try.prog V = .ok (.string br) V := fun V => by rw [← hbr]; exact run_string_add_sum V b r (by omega)
  have hars : ar.size ≤ 1024 := by rw [← har, ByteArray.size_append]; omega
  have hbrs : br.size ≤ 1024 := by rw [← hbr, ByteArray.size_append]; omega
  have harl : ar.data.toList = a.data.toList ++ r.data.toList := by rw [← har]; simp
  have hbrl : br.data.toList = b.data.toList ++ r.data.toList := by rw [← hbr]; simp
  have E1 := Lib.hid (fun V => ends_short ar L M W K V HOK.out hars)
  have E2 := Lib.hid (fun V => ends_short br L M W K V HOK.out hbrs)
  have E3 := Lib.hid (fun V => common_short ar br L M W K V HOK.out hars hbrs)
  have hl1 := (Cm.cutR_small HOK.out ar.data.toList (by rw [size_list]; exact hars)).1
  have hl2 := (Cm.cutR_small HOK.out br.data.toList (by rw [size_list]; exact hbrs)).1
  have hsh := Cm.shares HOK.out a.data.toList b.data.toList r.data.toList
  rw [← harl, ← hbrl] at hsh
  rw [size_list, size_list] at hsh
  obtain ⟨l1, hx1⟩ : ∃ l, Cm.cut ⟨L, M, W, K⟩ ar.data.toList = l := ⟨_, rfl⟩
  obtain ⟨l2, hx2⟩ : ∃ l, Cm.cut ⟨L, M, W, K⟩ br.data.toList = l := ⟨_, rfl⟩
  unfold Cm.ends at E1 E2
  have f1 := Cm.flat_take_le l1
  have f2 := Cm.flat_take_le l2
  have hff1 : l1.flatten.length ≤ 1024 := by rw [← hx1, Cm.cut_flat HOK.out, size_list]; exact hars
  have hff2 : l2.flatten.length ≤ 1024 := by rw [← hx2, Cm.cut_flat HOK.out, size_list]; exact hbrs
  rw [hx1] at E1 E3 hl1 hsh
  rw [hx2] at E2 E3 hl2 hsh
  obtain ⟨R, hR⟩ : ∃ R, Cm.common l1 l2 = R := ⟨_, rfl⟩
  have hR2 : R ≤ 256 := by have := (Cm.com_le l1.reverse l2.reverse).1; rw [List.length_reverse] at this; rw [← hR, Cm.common]; omega
  rw [hR] at E3 hsh
  obtain ⟨m1, hm1⟩ : ∃ m, l1.length = m := ⟨_, rfl⟩
  obtain ⟨m2, hm2⟩ : ∃ m, l2.length = m := ⟨_, rfl⟩
  rw [hm1] at E1 hl1
  rw [hm2] at E2 hl2
  have HSH := Lib.hid hsh
  have HM1 := Lib.hid hm1
  have HM2 := Lib.hid hm2
  have HF1 := Lib.hid (fun k => Nat.le_trans (f1 k) hff1)
  have HF2 := Lib.hid (fun k => Nat.le_trans (f2 k) hff2)
  clear har hbr harl hbrl hx1 hx2 hR hm1 hm2 hsh f1 f2 hff1 hff2 hars hbrs
  obtain ⟨q0, q1, q2, q3, _, _, _⟩ := CutB.s HB3.out
  go_wp2_with fail
  refine (E1.out _).mono ?_
  rintro e wa1 ⟨A1, k1, rfl, hci, hbe⟩
  have HB4 := Lib.hid (show CutB cb L M W K wa1 from (hbe.block cb (lt_of_block HB3.out)).trans HB3.out)
  have HC1 := Lib.hid hci
  have HW4 := Lib.hid (HW3.out.trans (hbe.mono HW3.out.size))
  clear hci hbe q0 q1 q2 q3 HB3 HW3
  obtain ⟨q0, q1, q2, q3, _, _, _⟩ := CutB.s HB4.out
  go_wp2_with fail
  refine (E2.out _).mono ?_
  rintro e wa2 ⟨A2, k2, rfl, hci, hbe⟩
  have HB5 := Lib.hid (show CutB cb L M W K wa2 from (hbe.block cb (lt_of_block HB4.out)).trans HB4.out)
  have HC2 := Lib.hid hci
  have HC1' := Lib.hid (HC1.out.below hbe)
  have HW5 := Lib.hid (HW4.out.trans (hbe.mono HW4.out.size))
  clear hci hbe q0 q1 q2 q3 HB4 HW4 HC1
  obtain ⟨q0, q1, q2, q3, _, _, _⟩ := CutB.s HB5.out
  go_wp2_with fail
  refine (E3.out _).mono ?_
  rintro e wa3 ⟨rfl, hbe⟩
  have HC3 := Lib.hid (HC1'.out.below hbe)
  have HC4 := Lib.hid (HC2.out.below hbe)
  have HW6 := Lib.hid (HW5.out.trans (hbe.mono HW5.out.size))
  clear hbe q0 q1 q2 q3 HB5 HW5 HC1' HC2 E1 E2 E3 c1 c2
  go_wp2_with fail
  go_loop [16, 75] (fun v i => ∃ p k : Nat, p ≤ R ∧ k ≤ m1 ∧ v = .int .i64 p ∧ i = .int .i64 k) (fun v i => m1 - (intOf i).toNat)
  case atStart => exact ⟨0, 0, by omega, by omega, rfl, rfl⟩
  case round =>
    obtain ⟨p, k, hp, hk, rfl, rfl⟩ := hrel
    by_cases hlt : k < m1
    · obtain ⟨gl, o, rfl, hgl, hzl, g1⟩ := HC3.out.at hlt
      rw [List.getElem_map, Cm.endsF_get, Nat.zero_add] at g1
      obtain ⟨X, hX⟩ : ∃ X, (l1.take (k + 1)).flatten.length = X := ⟨_, rfl⟩
      have hXs := HF1.out (k + 1)
      rw [hX] at g1 hXs
      have i0 : (0 : Int) ≤ (k : Int) := by omega
      have i1 : (k : Int) < (m1 : Int) := by omega
      have HX := Lib.hid hX
      clear hX hzl hgl
      go_wp2_with fail
      go_loop [16, 82] (fun v i => ∃ p j : Nat, p ≤ R ∧ j ≤ m2 ∧ v = .int .i64 p ∧ i = .int .i64 j) (fun v i => m2 - (intOf i).toNat)
      case atStart => exact ⟨p, 0, hp, by omega, rfl, rfl⟩
      case round =>
        obtain ⟨p, j, hp, hj, rfl, rfl⟩ := hrel
        by_cases hlj : j < m2
        · obtain ⟨gl', o', rfl, hgl', hzl', g2⟩ := HC4.out.at hlj
          rw [List.getElem_map, Cm.endsF_get, Nat.zero_add] at g2
          obtain ⟨Y, hY⟩ : ∃ Y, (l2.take (j + 1)).flatten.length = Y := ⟨_, rfl⟩
          have hYs := HF2.out (j + 1)
          rw [hY] at g2 hYs
          have j0 : (0 : Int) ≤ (j : Int) := by omega
          have j1 : (j : Int) < (m2 : Int) := by omega
          have HY := Lib.hid hY
          clear hY hzl' hgl'
          by_cases t1 : a.size ≤ X
          · have u1 : (a.size : Int) ≤ (X : Int) := by omega
            by_cases t2 : b.size ≤ Y
            · have u2 : (b.size : Int) ≤ (Y : Int) := by omega
              by_cases t3 : X - a.size = Y - b.size
              · have u3 : ((X : Int) - (a.size : Int) == (Y : Int) - (b.size : Int)) = true := beq_iff_eq.2 (by omega)
                have hle := HSH.out k j (by rw [HM1.out]; exact hlt) (by rw [HM2.out]; exact hlj) X Y HX.out HY.out t1 t2 t3
                rw [HM1.out] at hle
                obtain ⟨v, hv⟩ : ∃ v, m1 - 1 - k = v := ⟨_, rfl⟩
                have hv2 : (m1 : Int) - 1 - (k : Int) = (v : Int) := by omega
                rw [hv] at hle
                clear hv t3
                by_cases hpv : p < v
                · have w1 : (p : Int) < (v : Int) := by omega
                  go_wp2
                  go_round
                  case rel => exact ⟨v, j + 1, hle, by omega, rfl, by go_num⟩
                  case measure => simp [intOf]; omega
                · have w1 : ¬ (p : Int) < (v : Int) := by omega
                  go_wp2
                  go_round
                  case rel => exact ⟨p, j + 1, hp, by omega, rfl, by go_num⟩
                  case measure => simp [intOf]; omega
              · have u3 : ((X : Int) - (a.size : Int) == (Y : Int) - (b.size : Int)) = false := beq_eq_false_iff_ne.2 (by omega)
                clear t3
                go_wp2
                go_round
                case rel => exact ⟨p, j + 1, hp, by omega, rfl, by go_num⟩
                case measure => simp [intOf]; omega
            · have u2 : decide ((b.size : Int) ≤ (Y : Int)) = false := by simp; omega
              go_wp2
              go_round
              case rel => exact ⟨p, j + 1, hp, by omega, rfl, by go_num⟩
              case measure => simp [intOf]; omega
          · have u1 : decide ((a.size : Int) ≤ (X : Int)) = false := by simp; omega
            go_wp2
            go_round
            case rel => exact ⟨p, j + 1, hp, by omega, rfl, by go_num⟩
            case measure => simp [intOf]; omega
        · obtain rfl : j = m2 := by omega
          go_wp2
          go_round
          case rel => exact ⟨p, k + 1, hp, by omega, rfl, by go_num⟩
          case measure => simp [intOf]; omega
    · obtain rfl : k = m1 := by omega
      have hpr : decide ((p : Int) ≤ (R : Int)) = true := by simp; omega
      go_wp2
      go_ret
      exact ⟨by first | rfl | exact Cm.ret_bool hpr, HW6.out⟩

end Go.Proofs.Ytenkloceonojeaa
