/-
  ChunkWeight: its walk.
-/
import Derived.Test.YtenkloceonojeaaChS
import Derived.Test.YtenkloceonojeaaMkC
namespace Go.Proofs.Ytenkloceonojeaa
open Go.RowKit
set_option maxHeartbeats 2000000

/-- a short text has no more chunks than are permitted -/
theorem Cm.cutR_small {c : Cm.C} (hc : c.ok) (s : List UInt8) (h : s.length ≤ 1024) : (Cm.cut c s).length ≤ 256 ∧ Cm.cutR c s = (Cm.cut c s, 0) := by
  have h1 := Cm.cut_count hc s
  have h4 := hc.l4
  have h2 : (Cm.cut c s).length ≤ 256 := by
    by_cases h3 : (Cm.cut c s).length ≤ 256
    · exact h3
    · have := Nat.mul_le_mul_left c.L (show 257 ≤ (Cm.cut c s).length by omega)
      omega
  exact ⟨h2, by unfold Cm.cutR; rw [if_pos h2]⟩
/-- Cut of a short text at a valid cutting -/
theorem cut_short (s : ByteArray) (L M W K : Nat) (w : World) (hc : Cm.C.ok ⟨L, M, W, K⟩) (hs : s.size ≤ 1024) :
    Calls Try.prog 17 #[.string s, .agg #[.int .i64 (L : Nat), .int .i64 (M : Nat), .int .i64 (W : Nat), .int .i64 (K : Nat)]] w
      fun e w' => ∃ A c, e = .returned (.tuple #[.slice A (Cm.cut ⟨L, M, W, K⟩ s.data.toList).length c, .int .i64 0]) ∧ CellsIn w' A (Cm.cut ⟨L, M, W, K⟩ s.data.toList).length c ((Cm.cut ⟨L, M, W, K⟩ s.data.toList).map Cm.str) ∧ Below w.heap.size w w' := by
  have h := cut_ok s ⟨L, M, W, K⟩ w hc (by omega)
  rw [(Cm.cutR_small hc s.data.toList (by rw [size_list]; exact hs)).2] at h
  refine Calls.mono h ?_
  rintro e w' ⟨v, rfl, hown, hb⟩
  obtain ⟨A, c, rfl, hci⟩ := own_cells hown
  exact ⟨A, c, rfl, hci, hb⟩
/-- where chunks end -/
theorem Cm.chunk_facts {c : Cm.C} (hc : c.ok) (s : List UInt8) (i : Nat) (h : i < (Cm.cut c s).length) :
    (∀ n, c.L ≤ n → n < ((Cm.cut c s)[i]).length → Cm.wt (((Cm.cut c s)[i]).take n) c.W % c.K ≠ 0) ∧ (i + 1 < (Cm.cut c s).length → ((Cm.cut c s)[i]).length < c.M → Cm.wt ((Cm.cut c s)[i]) c.W % c.K = 0) := by
  obtain ⟨r, _, _, hx, _, hl⟩ := Cm.cut_at hc i s h
  rw [hx]
  have h1 := Cm.fl_len c r
  have h2 := Cm.fl_le c r
  have hlen : (r.take (Cm.fl c r)).length = Cm.fl c r := by rw [List.length_take]; omega
  rw [hlen]
  obtain ⟨g1, g2⟩ := Cm.fl_is c r
  refine ⟨fun n hn1 hn2 => ?_, fun hi hm => ?_⟩
  · have := g2 n hn1 hn2 (by omega)
    unfold Cm.at' at this
    rw [List.take_take, Nat.min_eq_left (by omega)]
    exact of_decide_eq_false this
  · have h3 := hl hi
    rcases g1 with g1 | ⟨_, _, g1⟩
    · unfold Cm.most at g1; omega
    · exact of_decide_eq_true g1

set_option maxRecDepth 100000 in
theorem chunkWeight_walk (A : Option Addr) (n c : Nat) (z : List Int) (w : World) (hz : IntsIn .i64 w A n c z) (hc : c * Try.prog.bytesOf 3 ≤ 140737488351232) :
    Calls Try.prog 8 #[.slice A n c] w fun e w' => e = .returned (.bool true) ∧ Below w.heap.size w w' := by
  have hb8 : Try.prog.bytesOf 3 = 8 := by kernel_rfl
  rw [hb8] at hc
  have hnc := hz.2.1
  have hn : n ≤ 17592186044416 := by omega
  clear hb8 hc hnc
  have F1 := Lib.hid (fun V => few_any A n c V (by omega))
  have N1 := Lib.hid (fun V hb => new_any A n c w V hb)
  have K1 := Lib.hid (fun g V hd => cutting_any A n c z g w V hz hn hd)
  have T1 := Lib.hid (fun g V hd => mkText_any A n c z g w V 300 hz hn hd (by decide) (by decide))
  by_cases h500 : 500 < n
  · have d1 : decide ((n : Int) ≤ 500) = false := by simp; omega
    go_enter Try.func8, Try.ntmps8
    go_wp2_with fail
    refine (csane_any _).mono ?_
    rintro e w1 ⟨rfl, hB1⟩
    go_wp2_with fail
    refine (F1.out _).mono ?_
    rintro e w2 ⟨rfl, rfl⟩
    go_wp2
    go_ret
    exact ⟨rfl, hB1⟩
  have d1 : decide ((n : Int) ≤ 500) = true := by simp; omega
  clear hz h500
  go_enter Try.func8, Try.ntmps8
  go_wp2_with fail
  refine (csane_any _).mono ?_
  rintro e w1 ⟨rfl, hB1⟩
  go_wp2_with fail
  refine (F1.out _).mono ?_
  rintro e w2 ⟨rfl, rfl⟩
  go_wp2_with fail
  refine (N1.out _ hB1).mono ?_
  rintro e w2 ⟨rfl, hd2, _⟩
  obtain ⟨g, hg⟩ : ∃ g, w1.heap.size = g := ⟨_, rfl⟩
  rw [hg] at hd2 ⊢
  have HD2 := Lib.hid hd2
  clear hd2 hB1 hg
  go_wp2_with fail
  refine (K1.out g _ HD2.out).mono ?_
  rintro e w3 ⟨⟨L, M, W, K⟩, rfl, hok, hd3⟩
  unfold Cm.C.val Cm.C.cells
  simp only
  have HOK := Lib.hid hok
  have HD3 := Lib.hid hd3
  clear hok hd3 HD2
  go_wp2_with fail
  obtain ⟨cb, hcb⟩ : ∃ cb, w3.heap.size = cb := ⟨_, rfl⟩
  have hgl := HD3.out.lt
  have hcg : cb ≠ g := by omega
  have hbz : CutB cb L M W K (w3.alloc (.cells #[Value.int .i64 (L : Nat), .int .i64 (M : Nat), .int .i64 (W : Nat), .int .i64 (K : Nat)] 24)) := by rw [← hcb]; exact heap_alloc_new _ _
  have hda := HD3.out.alloc (.cells #[Value.int .i64 (L : Nat), .int .i64 (M : Nat), .int .i64 (W : Nat), .int .i64 (K : Nat)] 24)
  have hsa : cb < (w3.alloc (.cells #[Value.int .i64 (L : Nat), .int .i64 (M : Nat), .int .i64 (W : Nat), .int .i64 (K : Nat)] 24)).heap.size := by simp [hcb]
  rw [hcb]
  generalize w3.alloc (.cells #[Value.int .i64 (L : Nat), .int .i64 (M : Nat), .int .i64 (W : Nat), .int .i64 (K : Nat)] 24) = wa at hbz hda hsa ⊢
  have hd1 := hda.drew
  have h3d : (300 : Int).toNat ≤ 1024 := by decide
  have CC := Lib.hid (fun T V hT => cut_short T L M W K V HOK.out hT)
  have hq := (CutB.drew hbz).s
  obtain ⟨q0, q1, q2, q3, _, _, _⟩ := hq
  have HBZ := Lib.hid hbz
  have HSA := Lib.hid hsa
  have hcbw : w.heap.size ≤ cb := by have := HD3.out.1.size; omega
  clear hbz hda hsa hcb HD3 hgl
  go_region_held3 (fun V => V.cell? ⟨cb, 0, none⟩ = some (.int .i64 (L : Nat)) ∧ V.cell? ⟨cb, 1, none⟩ = some (.int .i64 (M : Nat)) ∧ V.cell? ⟨cb, 2, none⟩ = some (.int .i64 (W : Nat)) ∧ V.cell? ⟨cb, 3, none⟩ = some (.int .i64 (K : Nat))) (first | exact ⟨by assumption, by assumption, by assumption, by assumption⟩) ((first | (go_at_call 13; (with_reducible refine (T1.out g _ hd1).mono ?_); rintro e wt ⟨T, rfl, hT, hdt, hkt⟩; have hbt : CutB cb L M W K wt := (hkt.2 cb HSA.out hcg).trans HBZ.out; obtain ⟨r0, r1, r2, r3, _, _, _⟩ := CutB.s hbt) | (go_at_call 17; (with_reducible refine (CC.out T _ (Nat.le_trans hT h3d)).mono ?_); rintro e wc ⟨A', cc, rfl, hci, hbc⟩; have hbk : CutB cb L M W K wc := (hbc.block cb (lt_of_block hbt)).trans hbt; obtain ⟨s0, s1, s2, s3, _, _, _⟩ := CutB.s hbk) | fail))
  go_wp2_with fail
  have hcf := Cm.chunk_facts HOK.out T.data.toList
  have hsm := Cm.cut_small HOK.out T.data.toList
  have hlen := (Cm.cutR_small HOK.out T.data.toList (by rw [size_list]; exact Nat.le_trans hT h3d)).1
  obtain ⟨l, hl⟩ : ∃ l, Cm.cut ⟨L, M, W, K⟩ T.data.toList = l := ⟨_, rfl⟩
  rw [hl] at hcf hsm hlen hci ⊢
  obtain ⟨m, hm⟩ : ∃ m, l.length = m := ⟨_, rfl⟩
  rw [hm] at hlen hci ⊢
  simp only at hcf hsm
  have hbw : Below w.heap.size w wc := hdt.1.trans (hbc.mono hdt.1.size)
  obtain ⟨hk4, hk5, hk6, hk7, hk8, hk9, hk10⟩ := HOK.out
  simp only at hk4 hk5 hk6 hk7 hk8 hk9 hk10
  have HM := Lib.hid hm
  have HCF := Lib.hid hcf
  have HSM := Lib.hid hsm
  have HCI := Lib.hid hci
  have HBW := Lib.hid hbw
  clear hl hm hcf hsm hci hbw hbk hbc hbt hkt hdt q0 q1 q2 q3 r0 r1 r2 r3 hd1 N1 F1 K1 T1 CC HSA HBZ
  go_loopw [30] (fun i wr => ∃ k : Nat, k ≤ m ∧ i = .int .i64 k ∧ Below wc.heap.size wc wr) (fun i wr => m - (intOf i).toNat)
  case atStart => exact ⟨0, by omega, rfl, Below.refl _ _⟩
  case round =>
    obtain ⟨k, hk, rfl, hBr⟩ := hrel
    by_cases hlt : k < m
    · obtain ⟨gl, o, rfl, hgl, hzl, g1⟩ := (HCI.out.below hBr).at hlt
      rw [List.getElem_map] at g1
      have hkl : k < l.length := by rw [HM.out]; exact hlt
      obtain ⟨f1, f2⟩ := HCF.out k hkl
      have hxm := (HSM.out _ (List.getElem_mem hkl)).2
      obtain ⟨x, hx⟩ : ∃ x, l[k] = x := ⟨_, rfl⟩
      rw [hx] at f1 f2 hxm g1
      obtain ⟨X, hX⟩ : ∃ X, Cm.b x = X := ⟨_, rfl⟩
      have hXl : X.data.toList = x := by rw [← hX, Cm.b_list]
      have hXs : x.length = X.size := by rw [← hXl, size_list]
      unfold Cm.str at g1
      rw [hX] at g1
      rw [hXs] at f1 f2 hxm
      have i0 : (0 : Int) ≤ (k : Int) := by omega
      have i1 : (k : Int) < (m : Int) := by omega
      have hcbl : cb < wc.heap.size := World.block_lt_of_cell? wc _ s0
      have z0 := (hBr.cell (p := ⟨cb, 0, none⟩) hcbl).trans s0
      have HBr := Lib.hid hBr
      clear hBr
      have hXm : X.size ≤ 256 := by omega
      rw [HM.out] at f2
      have HF1 := Lib.hid f1
      have HF2 := Lib.hid f2
      have HXl := Lib.hid hXl
      clear f1 f2 hx hX hXl hXs hkl hzl hgl
      go_wp2_with fail
      go_loopw [9] (fun v wr => ∃ p : Nat, L ≤ p ∧ v = .int .i64 p ∧ Below wc.heap.size wc wr) (fun v wr => X.size - (intOf v).toNat)
      case atStart => exact ⟨L, Nat.le_refl _, rfl, HBr.out⟩
      case round =>
        obtain ⟨p, hp, rfl, hBp⟩ := hrel
        clear z0
        have z1 := (hBp.cell (p := ⟨cb, 1, none⟩) hcbl).trans s1
        have z2 := (hBp.cell (p := ⟨cb, 2, none⟩) hcbl).trans s2
        have z3 := (hBp.cell (p := ⟨cb, 3, none⟩) hcbl).trans s3
        obtain ⟨wo, hwo⟩ : ∃ wo : World, wo = wr := ⟨_, rfl⟩
        rw [← hwo] at hBp z1 z2 z3 ⊢
        have HBp := Lib.hid hBp
        clear hBp hwo
        by_cases hlp : p < X.size
        · obtain ⟨Y, hY⟩ : ∃ Y, X.extract 0 p = Y := ⟨_, rfl⟩
          have hYs : Y.size ≤ 100000 := by rw [← hY, ByteArray.size_extract]; omega
          have hYl : Y.data.toList = x.take p := by rw [← hY, Cm.take_list, HXl.out]
          obtain ⟨u, hu⟩ : ∃ u, Cm.wt Y.data.toList (W : Int).toNat = u := ⟨_, rfl⟩
          have hub : u ≤ 256 * 100000 * 100000 := by
            have h := Cm.wt_le Y.data.toList (W : Int).toNat
            have hq : Y.data.toList.length ≤ 100000 := by rw [size_list]; exact hYs
            have := Nat.mul_le_mul (Nat.mul_le_mul_left 256 hq) hq
            omega
          have W1 := Lib.hid (fun V => hu ▸ weight_any Y (W : Nat) V hYs (by omega) (by omega))
          obtain ⟨y, hy⟩ : ∃ y, u % K = y := ⟨_, rfl⟩
          have hne : y ≠ 0 := by
            rw [← hy, ← hu, hYl]
            exact HF1.out p hp hlp
          have hyk : y < K := by rw [← hy]; exact Nat.mod_lt _ (by omega)
          have f1 : (u : Int).tmod (K : Int) = (y : Int) := by rw [Int.tmod_eq_emod_of_nonneg (by omega), ← hy]; simp
          have f2 : ¬ (K : Int) = 0 := by omega
          have f3 : (p : Int) ≤ (X.size : Int) := by omega
          have f4 : (0 : Int) ≤ (p : Int) := by omega
          have g0 : ((y : Int) == 0) = false := beq_eq_false_iff_ne.2 (by omega)
          clear hu hy hYl hne
          go_wp2_with fail
          go_quiet ((go_at_call 26; exact Calls.quiet_same (W1.out _)))
          go_wp2_with fail
          go_roundw
          case rel => exact ⟨p + 1, by omega, by go_num, HBp.out.trans ⟨rfl, rfl, rfl, Nat.le_refl _, fun _ _ => rfl⟩⟩
          case measure => simp [intOf]; omega
        · have e1 : (m : Int) - 1 - (k : Int) = (m : Int) - 1 - (k : Int) := rfl
          by_cases hlast : k + 1 < m
          · have d2 : (k : Int) < (m : Int) - 1 := by omega
            by_cases hxM : X.size < M
            · have d3 : (X.size : Int) < (M : Int) := by omega
              obtain ⟨u, hu⟩ : ∃ u, Cm.wt X.data.toList (W : Int).toNat = u := ⟨_, rfl⟩
              have hub : u ≤ 256 * 100000 * 100000 := by
                have h := Cm.wt_le X.data.toList (W : Int).toNat
                have hq : X.data.toList.length ≤ 100000 := by rw [size_list]; omega
                have := Nat.mul_le_mul (Nat.mul_le_mul_left 256 hq) hq
                omega
              have W1 := Lib.hid (fun V => hu ▸ weight_any X (W : Nat) V (by omega) (by omega) (by omega))
              have hy : u % K = 0 := by rw [← hu, HXl.out]; exact HF2.out hlast hxM
              have f1 : (u : Int).tmod (K : Int) = 0 := by rw [Int.tmod_eq_emod_of_nonneg (by omega)]; omega
              have f2 : ¬ (K : Int) = 0 := by omega
              clear hu hy e1
              go_wp2_with fail
              go_quiet ((go_at_call 26; exact Calls.quiet_same (W1.out _)))
              go_wp2_with fail
              go_roundw
              case rel => exact ⟨k + 1, by omega, by go_num, HBp.out.trans ⟨rfl, rfl, rfl, Nat.le_refl _, fun _ _ => rfl⟩⟩
              case measure => simp [intOf]; omega
            · have d3 : decide ((X.size : Int) < (M : Int)) = false := by simp; omega
              clear e1
              go_wp2_with fail
              go_quiet (fail)
              go_wp2_with fail
              go_roundw
              case rel => exact ⟨k + 1, by omega, by go_num, HBp.out.trans ⟨rfl, rfl, rfl, Nat.le_refl _, fun _ _ => rfl⟩⟩
              case measure => simp [intOf]; omega
          · have d2 : decide ((k : Int) < (m : Int) - 1) = false := by simp; omega
            clear e1
            go_wp2_with fail
            go_quiet (fail)
            go_wp2_with fail
            go_roundw
            case rel => exact ⟨k + 1, by omega, by go_num, HBp.out.trans ⟨rfl, rfl, rfl, Nat.le_refl _, fun _ _ => rfl⟩⟩
            case measure => simp [intOf]; omega
    · obtain rfl : k = m := by omega
      go_wp2
      go_ret
      exact ⟨rfl, HBW.out.trans (hBr.mono HBW.out.size)⟩

end Go.Proofs.Ytenkloceonojeaa
