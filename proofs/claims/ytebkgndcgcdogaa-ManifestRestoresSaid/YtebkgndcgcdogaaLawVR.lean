/-
  ManifestRestores: its walk.
-/
import Derived.Test.YtebkgndcgcdogaaVn
namespace Go.Proofs.Ytebkgndcgcdogaa
open Go.RowKit
set_option maxHeartbeats 4000000

def Vm.lenOf : Value → Nat
  | .slice _ n _ => n
  | _ => 0

set_option maxRecDepth 100000 in
theorem manifestRestores_walk (A : Option Addr) (n c : Nat) (z : List Int) (Ao : Option Addr) (no co : Nat) (os : List (List UInt8)) (lv : Int) (w : World) (hz : IntsIn .i64 w A n c z) (hc : c * Try.prog.bytesOf 3 ≤ 140737488351232)
    (ho : CellsIn w Ao no co (os.map Cm.str)) (hno : Ao = none → no = 0 ∧ co = 0) (hco : co * Try.prog.bytesOf 9 ≤ 140737488351232) (hos : ∀ x ∈ os, x.length ≤ 140737488351232) (hl0 : 0 ≤ lv) (hl1 : lv ≤ 255) :
    Calls Try.prog 5 #[.slice A n c, .slice Ao no co, .int .u8 lv] w fun e w' => e = .returned (.bool true) ∧ Below w.heap.size w w' := by
  have hb8 : Try.prog.bytesOf 3 = 8 := by kernel_rfl
  have hb16 : Try.prog.bytesOf 9 = 16 := by kernel_rfl
  rw [hb8] at hc
  rw [hb16] at hco
  have hnc := hz.2.1
  have hnco := ho.2.1
  have hn : n ≤ 17592186044416 := by omega
  have hno6 : no * 16 ≤ 140737488351232 := by omega
  clear hb8 hc hnc hb16 hco hnco
  have F1 := Lib.hid (fun V => few_any A n c V (by omega))
  obtain ⟨sm, hsm⟩ : ∃ sm, decide (IntKind.i64.wrap (Vm.weigh os) < 2000) = sm := ⟨_, rfl⟩
  have S0 := Lib.hid (fun V h => hsm ▸ small_any Ao no co os V h (fun x hx => by have := hos x hx; omega) (by omega))
  by_cases h500 : 500 < n
  · have d1 : decide ((n : Int) ≤ 500) = false := by simp; omega
    go_enter Try.func5, Try.ntmps5
    go_wp2_with fail
    refine (vsane_any _).mono ?_
    rintro e w1 ⟨rfl, hB1⟩
    go_wp2_with fail
    refine (F1.out _).mono ?_
    rintro e w2 ⟨rfl, rfl⟩
    go_wp2_with fail
    go_ret
    exact ⟨rfl, hB1⟩
  have d1 : decide ((n : Int) ≤ 500) = true := by simp; omega
  cases sm with
  | false =>
    go_enter Try.func5, Try.ntmps5
    go_wp2_with fail
    refine (vsane_any _).mono ?_
    rintro e w1 ⟨rfl, hB1⟩
    go_wp2_with fail
    refine (F1.out _).mono ?_
    rintro e w2 ⟨rfl, rfl⟩
    go_wp2_with fail
    refine (S0.out _ (ho.below hB1)).mono ?_
    rintro e w2 ⟨rfl, hB2⟩
    have HB2 := Lib.hid (hB1.trans (hB2.mono hB1.size))
    clear hB1 hB2
    go_wp2_with fail
    go_ret
    exact ⟨rfl, HB2.out⟩
  | true =>
  clear hsm
  obtain ⟨lv, rfl⟩ := Int.eq_ofNat_of_zero_le hl0
  have N1 := Lib.hid (fun V hb => new_any A n c w V hb)
  have K1 := Lib.hid (fun g V hd => mkChunks_any A n c z g w V hz hn hd)
  have X1 := Lib.hid (fun g V h => next_any A n c z g w V 9 hz hn h (by decide) (by decide))
  have HOS := Lib.hid ho
  have HNO := Lib.hid hno
  have HOZ := Lib.hid hos
  clear hz h500 ho hno hos hl0
  go_enter Try.func5, Try.ntmps5
  go_wp2_with fail
  refine (vsane_any _).mono ?_
  rintro e w1 ⟨rfl, hB1⟩
  go_wp2_with fail
  refine (F1.out _).mono ?_
  rintro e w2 ⟨rfl, rfl⟩
  go_wp2_with fail
  refine (S0.out _ (HOS.out.below hB1)).mono ?_
  rintro e w2 ⟨rfl, hB2⟩
  have hB12 := hB1.trans (hB2.mono hB1.size)
  clear hB1 hB2
  go_wp2_with fail
  refine (N1.out _ hB12).mono ?_
  rintro e w3 ⟨rfl, hd3, _⟩
  obtain ⟨g, hg⟩ : ∃ g, w2.heap.size = g := ⟨_, rfl⟩
  rw [hg] at hd3 ⊢
  have HD3 := Lib.hid hd3
  clear hd3 hB12 hg
  go_wp2_with fail
  refine (K1.out g _ HD3.out).mono ?_
  rintro e w4 ⟨A1, n1, c1, l, rfl, hci, hn1, hfw, hd4, _⟩
  have HCI := Lib.hid hci
  have HN1 := Lib.hid hn1
  have HFW := Lib.hid hfw
  have HD4 := Lib.hid hd4
  clear hci hn1 hfw hd4 HD3
  go_wp2_with fail
  refine (X1.out g _ HD4.out).mono ?_
  rintro e w5 ⟨x, rfl, hx, hd5, hs5⟩
  have HCI5 := Lib.hid (strsIn_kept HCI.out HD4.out hs5.kept)
  have HB5 := Lib.hid hd5.1
  have hln : l.length = n1 := by have := HCI.out.1; simpa using this
  have hl60 := Vm.few_len HFW.out
  have HLN := Lib.hid hln
  have x0 : IntKind.i64.wrap (1 + (x : Int)) = 1 + (x : Int) := by rw [IntKind.wrap_i64]; omega
  obtain ⟨k, hk⟩ : ∃ k : Int, 1 + (x : Int) = k := ⟨_, rfl⟩
  have hk1 : 1 ≤ k := by omega
  have hk9 : k ≤ 9 := by omega
  have O1 := Lib.hid (fun V h => mof_any k A1 n1 c1 l V h (fun y hy => by have := (HFW.out.2 y hy).2; omega) (by omega))
  have b5 := HB5.out.size
  rw [hln] at hl60
  clear hd5 hs5 HD4 HCI N1 K1 X1 F1 S0 hln
  go_wp2_with fail
  rcases Vm.ofV_two (num := k) hk1 (by omega) (by rw [HLN.out]; omega) HFW.out.2 with ⟨hv, _⟩ | ⟨hv, hnc⟩
  · rw [hv] at O1
    refine (O1.out _ HCI5.out).mono ?_
    rintro e w6 ⟨v6, rfl, ho6, hb6⟩
    obtain ⟨A6, c6, rfl, _⟩ := own_names ho6
    have HB6 := Lib.hid (HB5.out.trans (hb6.mono b5))
    clear hb6 ho6
    go_wp2_with fail
    go_ret
    exact ⟨rfl, HB6.out.alloc HB6.out.size _⟩
  have hk0 : Vm.chk k (l.map Vm.nm) = 0 := (Vm.ofV_chk (num := k) (l := l) (by rw [hv])).1
  rw [hv] at O1
  clear hv hnc
  refine (O1.out _ HCI5.out).mono ?_
  rintro e w6 ⟨v6, rfl, ho6, hb6⟩
  obtain ⟨A6, c6, rfl, hn6⟩ := own_names ho6
  have hl6 : (l.map Vm.nm).length = n1 := by rw [List.length_map, HLN.out]
  rw [hl6] at hn6
  simp only [hl6]
  have HN6 := Lib.hid hn6
  have HC6 := Lib.hid (HCI5.out.below hb6)
  have HB6 := Lib.hid (HB5.out.trans (hb6.mono b5))
  have z6 := hb6.size
  obtain ⟨bv, hbve⟩ : ∃ b, w6.heap.size = b := ⟨_, rfl⟩
  obtain ⟨w7, hw7⟩ : ∃ V, w6.alloc (.cells #[.int .i64 k, .slice A6 n1 c6] 25) = V := ⟨_, rfl⟩
  have hb7 : Below bv w6 w7 := by rw [← hw7, ← hbve]; exact (Below.refl _ _).alloc (Nat.le_refl _) _
  have hs7 : w7.heap.size = bv + 1 := by rw [← hw7]; simp [hbve]
  have hv7 : VB bv k (.slice A6 n1 c6) w7 := by rw [← hw7, ← hbve]; exact heap_alloc_new _ _
  have HW7 := Lib.hid hw7
  have HV7 := Lib.hid hv7
  have HN7 := Lib.hid (hn6.below (by rw [hbve]; exact hb7))
  have HC7 := Lib.hid (HC6.out.below (by rw [hbve]; exact hb7))
  have HB7 := Lib.hid (HB6.out.trans (hb7.mono (by omega)))
  clear ho6 hn6 hb6 hw7 hb7 hv7 hl6 HC6 HN6 HB6 HB5 HCI5 O1
  go_wp2_with fail
  rw [HW7.out]
  go_loopw [11, 47] (fun t i wr => ∃ j p : Nat, j ≤ n1 ∧ i = .int .i64 j ∧ t = .string (Cm.b (l.take j).flatten) ∧ wr = w7.drewN p) (fun t i _ => n1 - (intOf i).toNat)
  case atStart => exact ⟨0, 0, by omega, rfl, rfl, rfl⟩
  case round =>
    obtain ⟨j, p, hj, rfl, rfl, rfl⟩ := hrel
    by_cases hlj : j < n1
    · have d9 : decide ((j : Int) < (n1 : Int)) = true := by simp; omega
      obtain ⟨g2, o2, rfl, hg2, hz2, y2⟩ := HC7.out.at hlj
      rw [List.getElem_map] at y2
      have hjl : j < l.length := by rw [HLN.out]; exact hlj
      have hfl : (l.take (j + 1)).flatten = (l.take j).flatten ++ l[j] := by rw [List.take_succ_eq_append_getElem hjl, List.flatten_append]; simp
      have hf60 := Cm.flat_take_le l j
      have hx2 := (HFW.out.2 _ (List.getElem_mem hjl)).2
      have hfs := HFW.out.1
      unfold Cm.str at y2
      have ha1 : ∀ V : World, (Op.stringOp .add (Cm.b (l.take j).flatten) (Cm.b l[j])).run Try.prog V = .ok (.string (Cm.b (l.take (j + 1)).flatten)) V := fun V => by
        have h1 : Cm.b (l.take (j + 1)).flatten = Cm.b (l.take j).flatten ++ Cm.b l[j] := by rw [hfl]; apply bytes_ext; simp [Cm.b]
        rw [h1]
        exact run_string_add_sum V _ _ (by rw [Cm.b_size, Cm.b_size]; omega)
      obtain ⟨X, hX⟩ : ∃ X, Cm.b (l.take j).flatten = X := ⟨_, rfl⟩
      obtain ⟨Y, hY⟩ : ∃ X, Cm.b l[j] = X := ⟨_, rfl⟩
      obtain ⟨Z, hZ⟩ : ∃ X, Cm.b (l.take (j + 1)).flatten = X := ⟨_, rfl⟩
      rw [hX, hY, hZ] at ha1
      rw [hY] at y2
      rw [hX]
      have HZ := Lib.hid hZ
      clear hX hY hZ hz2 hg2 hfl hf60 hx2 hfs
      go_wp2_with fail
      go_roundw
      case rel => exact ⟨j + 1, p, by omega, by go_num, by rw [HZ.out], rfl⟩
      case measure => simp [intOf]; omega
    · obtain rfl : j = n1 := by omega
      have d9 : decide ((j : Int) < (j : Int)) = false := by simp
      rw [List.take_of_length_le (by rw [HLN.out]; exact Nat.le_refl _)]
      obtain ⟨TX, hTX⟩ : ∃ X, Cm.b l.flatten = X := ⟨_, rfl⟩
      have HTX := Lib.hid hTX
      have hTXs : TX.size = l.flatten.length := by rw [← hTX, Cm.b_size]
      have HTXS := Lib.hid hTXs
      rw [hTX]
      obtain ⟨i0, hi, hz0, hz1, hz2⟩ := info_parts info_str
      have HCO := Lib.hid ((HOS.out.below HB7.out : CellsIn w7 Ao no co (os.map Cm.str)))
      have hlm : (os.map Cm.str).length = no := HCO.out.1
      have HLM := Lib.hid hlm
      clear hTX hTXs hlm
      go_wp2_with (at_builtin; refine wpList_append_from_nil rfl _ 26 rfl (bv + 1) 9 i0 (.string ByteArray.empty) 1 16 Try.underlying26 hi hz0 hz1 hz2 rfl (by decide) Ao no co (os.map Cm.str) rfl HNO.out (by rw [HLM.out, Nat.mul_one]) HCO.out.fresh (str_one os) (by unfold maxLen; omega) (by omega) (by simp; omega) ?_; intro v8 w8 ho8 hg8; have HO8 := Lib.hid ho8; have HG8 := Lib.hid hg8; clear ho8 hg8)
      have hK60 : j ≤ 60 := by omega
      obtain ⟨K, hKe⟩ : ∃ K, j = K := ⟨_, rfl⟩
      subst hKe
      have hb8 : Below (bv + 1) w7 w8 := Below.drewN' ((Below.refl _ _).grown (show w7.grownBy w8 none from ⟨HG8.out.1, HG8.out.2, HG8.out.3, HG8.out.size, HG8.out.block⟩) (by omega) (fun b hb => by cases hb)) 0
      obtain ⟨A8, c8, rfl⟩ := own_slice HO8.out
      have HB8 := Lib.hid hb8
      clear hb8 HG8
      go_loopw [14] (fun u wr => ∃ (i cm : Nat) (Am : Option Addr), i ≤ j ∧ u = .slice Am (no + i) cm ∧ wr.ownsRow (bv + 1) 9 1 u (no + i) ((os ++ Vm.around l (no + lv) i).map Cm.str) ∧ Below (bv + 1) w7 wr) (fun u _ => no + j - Vm.lenOf u)
      case atStart => exact ⟨0, c8, A8, by omega, rfl, by simpa [Vm.around] using HO8.out, HB8.out⟩
      case round =>
        obtain ⟨i, cm, Am, hi9, rfl, hrow, hBr⟩ := hrel
        have hsz := hBr.size
        have HBr := Lib.hid hBr
        have HROW := Lib.hid hrow
        clear hBr hrow
        by_cases hij : i < j
        · have dK : decide ((0 : Int) < (j : Int)) = true := by simp; omega
          have dM : decide ((no : Int) + (i : Int) < (no : Int) + (j : Int)) = true := by simp; omega
          obtain ⟨q, hq⟩ : ∃ q, (no + lv + i) % j = q := ⟨_, rfl⟩
          have hqj : q < j := by rw [← hq]; exact Nat.mod_lt _ (by omega)
          have m0 : IntKind.i64.wrap (lv : Int) = (lv : Int) := IntWalk.i64_in _ (by omega)
          have m1 : IntKind.i64.wrap ((no : Int) + (i : Int) + (lv : Int)) = (no : Int) + (i : Int) + (lv : Int) := IntWalk.i64_in _ (by omega)
          have m1' : IntKind.i64.wrap ((no : Int) + (j : Int)) = (no : Int) + (j : Int) := IntWalk.i64_in _ (by omega)
          have m2 : ((no : Int) + (i : Int) + (lv : Int)).tmod (j : Int) = (q : Int) := by
            rw [Int.tmod_eq_emod_of_nonneg (by omega), ← hq]
            have : (no : Int) + (i : Int) + (lv : Int) = ((no + lv + i : Nat) : Int) := by omega
            rw [this]; simp
          have m3 : ((no : Int) + (i : Int) + (lv : Int)) % (j : Int) = (q : Int) := by
            rw [← hq]
            have : (no : Int) + (i : Int) + (lv : Int) = ((no + lv + i : Nat) : Int) := by omega
            rw [this]; simp
          have m4 : ¬ ((j : Int) = 0) := by omega
          have m5 : (0 : Int) ≤ (q : Int) := by omega
          have m6 : (q : Int) < (j : Int) := by omega
          have m7 : IntKind.i64.wrap (q : Int) = (q : Int) := IntWalk.i64_in _ (by omega)
          have hcx := HC7.out.below (show Below w7.heap.size w7 wr by rw [hs7]; exact HBr.out)
          obtain ⟨g3, o3, rfl, hg3, hz3, y3⟩ := hcx.at hqj
          rw [List.getElem_map] at y3
          have hql : q < l.length := by rw [HLN.out]; exact hqj
          obtain ⟨Y, hY⟩ : ∃ X, Cm.b l[q] = X := ⟨_, rfl⟩
          unfold Cm.str at y3
          rw [hY] at y3
          have HAR := Lib.hid (show (os ++ Vm.around l (no + lv) (i + 1)).map Cm.str = (os ++ Vm.around l (no + lv) i).map Cm.str ++ [.string Y] by
            rw [Vm.around, ← List.append_assoc, List.map_append, List.map_singleton]
            congr 2
            rw [HLN.out, hq, List.getD_eq_getElem?_getD, List.getElem?_eq_getElem hql]
            unfold Cm.str
            rw [← hY]; rfl)
          clear hq hY hz3 hg3 hcx hql
          go_wp2_with (at_builtin; refine wpList_append_own _ rfl _ _ 26 rfl (bv + 1) 9 i0 (.string ByteArray.empty) 1 16 Try.underlying26 hi hz0 hz1 hz2 rfl (by decide) _ _ _ rfl (HROW.out.alloc _) ⟨wr.heap.size, 0, none⟩ 1 1 [.string Y] rfl rfl (cell_one_new _ _ _) (by simp [Value.oneCell']) (by unfold maxLen; omega) (by omega) (by simp; omega) ?_; intro v9 w9 ho9 hg9 _; have HO9 := Lib.hid ho9; have HG9 := Lib.hid hg9; clear ho9 hg9)
          have HB9 := Lib.hid (show Below (bv + 1) w7 w9 from (HBr.out.alloc (by omega) _).grown HG9.out (by simp; omega) (fun b hb => (World.ownsRow.lt HROW.out b hb).1))
          obtain ⟨A9, c9, rfl⟩ := own_slice HO9.out
          go_roundw
          case rel => exact ⟨i + 1, c9, A9, by omega, rfl, by rw [HAR.out]; exact HO9.out, HB9.out⟩
          case measure => simp [Vm.lenOf]; omega
        · obtain rfl : i = j := by omega
          have hmix : ∀ x ∈ l, x ∈ os ++ Vm.around l (no + lv) i := fun x hx => List.mem_append_right _ (by
            have h := Vm.around_all l (no + lv) x hx
            rw [HLN.out] at h; exact h)
          obtain ⟨mx, hmx⟩ : ∃ mx, os ++ Vm.around l (no + lv) i = mx := ⟨_, rfl⟩
          rw [hmx] at hmix
          have hmz : ∀ x ∈ mx, x.length ≤ 9223372036854775807 := fun x hx => by
            rw [← hmx, List.mem_append] at hx
            rcases hx with hx | hx
            · have := HOZ.out x hx; omega
            · have : ∀ k, ∀ y ∈ Vm.around l (no + lv) k, y.length ≤ 256 := by
                intro k
                induction k with
                | zero => intro y hy; simp [Vm.around] at hy
                | succ k ih =>
                  intro y hy
                  rw [Vm.around, List.mem_append] at hy
                  rcases hy with hy | hy
                  · exact ih y hy
                  · simp only [List.mem_singleton] at hy
                    subst hy
                    rw [List.getD_eq_getElem?_getD]
                    cases hg : l[(no + lv + k) % l.length]? with
                    | none => simp
                    | some y => exact (HFW.out.2 y (List.mem_of_getElem? hg)).2
              have := this i x hx; omega
          have hrow := HROW.out
          rw [hmx] at hrow
          have hcm := CellsIn.own hrow
          have hrf := Vm.resF_all mx l [] hmix
          rw [List.nil_append] at hrf
          have hres : Vm.res k (l.map Vm.nm) mx = Vm.resF mx (l.map Vm.nm) [] := by unfold Vm.res; rw [if_pos hk0]
          have hsiz : Vm.siz k (l.map Vm.nm) = ((l.flatten.length : Int), 0) := by unfold Vm.siz; rw [if_pos hk0, Vm.sum2_flat]
          have R1 := Lib.hid (fun V h h' => mres_any k A6 Am i (no + i) c6 cm (l.map Vm.nm) mx V h h' hmz (by omega) (by omega))
          have S1 := Lib.hid (fun V h => (by
            have h := msiz_any k A6 i c6 (l.map Vm.nm) V h (by omega)
            rw [hsiz, ← HTXS.out] at h
            exact h : Calls Try.prog 21 #[.agg #[.int .i64 k, .slice A6 i c6]] V fun e w' => e = .returned (.tuple #[.int .i64 (TX.size : Nat), .int .i64 0]) ∧ Below V.heap.size V w'))
          rw [hres] at R1
          have L1 := Lib.hid (fun V h h' => (by
            have h := all_any Am A1 (no + i) cm i c1 mx l V h h' (by omega) (by omega)
            rw [decide_eq_true hmix] at h
            exact h : Calls Try.prog 34 #[.slice Am (no + i) cm, .slice A1 i c1] V fun e w' => e = .returned (.bool true) ∧ Below V.heap.size V w'))
          have dM : decide ((no : Int) + (i : Int) < (no : Int) + (i : Int)) = false := by simp
          have hv9 := HV7.out.below HBr.out (by omega)
          have q0 := hv9.c0
          have q1 := hv9.c1
          have HV9 := Lib.hid hv9
          have HN9 := Lib.hid (HN7.out.below (show Below w7.heap.size w7 wr by rw [hs7]; exact HBr.out))
          have HCM := Lib.hid hcm
          have HRF := Lib.hid hrf
          have b7 := HB7.out.size
          have HB9 := Lib.hid (HB7.out.trans (HBr.out.mono (by omega)))
          have m1' : IntKind.i64.wrap ((no : Int) + (i : Int)) = (no : Int) + (i : Int) := IntWalk.i64_in _ (by omega)
          obtain ⟨r, hr⟩ : ∃ r, Vm.resF mx (l.map Vm.nm) [] = r := ⟨_, rfl⟩
          have HRF2 := Lib.hid (show r = (l.flatten, 0) ∨ r = ([], 8) by rw [← hr]; exact hrf)
          rw [hr] at R1
          obtain ⟨rs, re⟩ := r
          clear hmix hmx hmz hrow hcm hrf hres hsiz hv9 HROW HRF hr
          by_cases hi0 : 0 < i
          · have dK : decide ((0 : Int) < (i : Int)) = true := by simp; omega
            go_wp2_with fail
            refine (R1.out _ HN9.out HCM.out).mono ?_
            rintro e w10 ⟨rfl, hb10⟩
            have hv10 := HV9.out.below hb10 (by omega)
            have HN10 := Lib.hid (HN9.out.below hb10)
            have HB10 := Lib.hid (HB9.out.trans (hb10.mono (by omega)))
            have z10 := hb10.size
            have k0 := hv10.c0
            have k1 := hv10.c1
            have b9 := HB9.out.size
            clear hb10 hv10 q0 q1
            rcases HRF2.out with he | he
            · injection he with he1 he2
              subst he1 he2
              rw [HTX.out]
              go_wp2_with fail
              refine (S1.out _ HN10.out).mono ?_
              rintro e w11 ⟨rfl, hb11⟩
              have HB11 := Lib.hid (HB10.out.trans (hb11.mono (by omega)))
              clear hb11 k0 k1
              go_wp2_with fail
              go_ret
              exact ⟨rfl, HB11.out⟩
            · injection he with he1 he2
              subst he1 he2
              go_wp2_with fail
              refine (S1.out _ HN10.out).mono ?_
              rintro e w11 ⟨rfl, hb11⟩
              have HB11 := Lib.hid (HB10.out.trans (hb11.mono (by omega)))
              clear hb11 k0 k1
              go_wp2_with fail
              go_ret
              exact ⟨rfl, HB11.out⟩
          · have dK : decide ((0 : Int) < (i : Int)) = false := by simp; omega
            go_wp2_with fail
            refine (R1.out _ HN9.out HCM.out).mono ?_
            rintro e w10 ⟨rfl, hb10⟩
            have hv10 := HV9.out.below hb10 (by omega)
            have HN10 := Lib.hid (HN9.out.below hb10)
            have HB10 := Lib.hid (HB9.out.trans (hb10.mono (by omega)))
            have z10 := hb10.size
            have k0 := hv10.c0
            have k1 := hv10.c1
            have b9 := HB9.out.size
            clear hb10 hv10 q0 q1
            rcases HRF2.out with he | he
            · injection he with he1 he2
              subst he1 he2
              rw [HTX.out]
              go_wp2_with fail
              refine (S1.out _ HN10.out).mono ?_
              rintro e w11 ⟨rfl, hb11⟩
              have HB11 := Lib.hid (HB10.out.trans (hb11.mono (by omega)))
              clear hb11 k0 k1
              go_wp2_with fail
              go_ret
              exact ⟨rfl, HB11.out⟩
            · injection he with he1 he2
              subst he1 he2
              go_wp2_with fail
              refine (S1.out _ HN10.out).mono ?_
              rintro e w11 ⟨rfl, hb11⟩
              have HB11 := Lib.hid (HB10.out.trans (hb11.mono (by omega)))
              clear hb11 k0 k1
              go_wp2_with fail
              go_ret
              exact ⟨rfl, HB11.out⟩

end Go.Proofs.Ytebkgndcgcdogaa
