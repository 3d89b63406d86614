/-
  Contract of manifest: Of.
-/
import Derived.Test.YtebkgndcgcdogaaManB
namespace Go.Proofs.Ytebkgndcgcdogaa
open Go.RowKit
set_option maxHeartbeats 4000000

theorem Vm.ofV_head {num : Int} {l : List (List UInt8)} {n : Nat} (hl : l.length = n) (h : Vm.head num n ≠ 0) : Vm.ofV num l = (0, [], Vm.head num n) := by
  subst hl
  unfold Vm.head at h ⊢
  unfold Vm.ofV
  by_cases h1 : num < 1 ∨ 2147483647 ≤ num
  · rw [if_pos h1, if_pos h1]
  · rw [if_neg h1] at h
    rw [if_neg h1, if_neg h1]
    by_cases h2 : 256 < l.length
    · rw [if_pos h2, if_pos (by omega)]
    · rw [if_neg (by omega)] at h; exact absurd rfl h
theorem Vm.ofV_clash' {num : Int} {l : List (List UInt8)} (h : ¬ (num < 1 ∨ 2147483647 ≤ num)) (h2 : ¬ 256 < l.length) (ha : ∀ i (hi : i < l.length), Vm.okC l[i] = true) (hc : Vm.clash l) : Vm.ofV num l = (0, [], 8) := by
  unfold Vm.ofV; rw [if_neg h, if_neg h2, if_pos (Vm.all_okC ha), if_pos hc]
theorem Vm.ofV_ok' {num : Int} {l : List (List UInt8)} (h : ¬ (num < 1 ∨ 2147483647 ≤ num)) (h2 : ¬ 256 < l.length) (ha : ∀ i (hi : i < l.length), Vm.okC l[i] = true) (hc : ¬ Vm.clash l) : Vm.ofV num l = (num, l.map Vm.nm, 0) := by
  unfold Vm.ofV; rw [if_neg h, if_neg h2, if_pos (Vm.all_okC ha), if_neg hc]
theorem Vm.clash_of_two {l : List (List UInt8)} {x : Vm.Nm} (h : 1 < (Vm.duo (Vm.pick x l)).length) : Vm.clash l := by
  rcases Vm.duo_spec (Vm.pick x l) with ⟨_, e⟩ | ⟨_, _, _, _, e⟩ | ⟨y, r, e, ⟨z, hz, hne⟩, _⟩
  · rw [e] at h; simp at h
  · rw [e] at h; simp at h
  · have hy := (Vm.pick_mem x l y).1 (by rw [e]; exact List.mem_cons_self ..)
    have hz' := (Vm.pick_mem x l z).1 (by rw [e]; exact List.mem_cons_of_mem _ hz)
    exact ⟨y, hy.1, z, hz'.1, hy.2.trans hz'.2.symm, fun e => hne e.symm⟩
theorem Vm.no_clash {l : List (List UInt8)} (h : ∀ j (hj : j < l.length), ¬ 1 < (Vm.duo (Vm.pick (Vm.nm l[j]) l)).length) : ¬ Vm.clash l := by
  rintro ⟨x, hx, y, hy, e, hne⟩
  obtain ⟨j, hj, rfl⟩ := List.mem_iff_getElem.1 hx
  have hx' := (Vm.pick_mem (Vm.nm l[j]) l l[j]).2 ⟨hx, rfl⟩
  have hy' := (Vm.pick_mem (Vm.nm l[j]) l y).2 ⟨hy, e.symm⟩
  have hj' := h j hj
  rcases Vm.duo_spec (Vm.pick (Vm.nm l[j]) l) with ⟨e1, _⟩ | ⟨z, r, e1, hr, _⟩ | ⟨_, _, _, _, e1⟩
  · rw [e1] at hx'; cases hx'
  · rw [e1] at hx' hy'
    have a1 : l[j] = z := by rcases List.mem_cons.1 hx' with e | e; exact e; exact hr _ e
    have a2 : y = z := by rcases List.mem_cons.1 hy' with e | e; exact e; exact hr _ e
    exact hne (a1.trans a2.symm)
  · rw [e1] at hj'; omega

set_option maxRecDepth 100000 in
theorem mof_any (num : Int) (A : Option Addr) (n c : Nat) (l : List (List UInt8)) (w : World) (hl : CellsIn w A n c (l.map Cm.str)) (hz : ∀ x ∈ l, x.length ≤ 9223372036854775807) (hn : n ≤ 17592186044416) :
    Calls Try.prog 17 #[.int .i64 num, .slice A n c] w (Vm.RetV w.heap.size w (Vm.ofV num l)) := by
  have hln : l.length = n := by have := hl.1; simpa using this
  have H1 := fun V => mhead_any num n V
  by_cases h0 : Vm.head num n ≠ 0
  · have HF := Lib.hid (Vm.ofV_head hln h0)
    have g0 : (Vm.head num n != 0) = true := by simpa using h0
    have g1 : (Vm.head num n == 0) = false := by simpa using h0
    obtain ⟨x, hx⟩ : ∃ x, Vm.head num n = x := ⟨_, rfl⟩
    rw [hx] at H1 HF g0 g1
    have HH := Lib.hid H1
    clear h0 hx H1 hl
    go_enter Try.func17, Try.ntmps17
    go_wp2_with (first | (go_at_call 41; refine (HH.out _).mono ?_; rintro e w' ⟨rfl, rfl⟩) | fail)
    exact bodyPost_ret (v := .tuple #[.agg #[.int .i64 0, .slice none 0 0], .int .i64 x]) (by simp [results, Try.results17, go_sem]) rfl ⟨.slice none 0 0, by rw [HF.out], by rw [HF.out]; exact NamesOwn.nil _ _, (Below.refl _ w).alloc (Nat.le_refl _) _⟩
  have h0' : Vm.head num n = 0 := by simpa using h0
  obtain ⟨h12, h3⟩ := Vm.head_zero h0'
  rw [h0'] at H1
  have HH := Lib.hid H1
  clear H1 h0 h0'
  have h32 : ¬ 256 < l.length := by omega
  obtain ⟨i0, hi, hz0, hz1, hz2⟩ := info_parts info_name
  obtain ⟨B, hB⟩ : ∃ B, w.heap.size = B := ⟨_, rfl⟩
  obtain ⟨w1, hw1⟩ : ∃ V, w.alloc (.cells #[Value.int .i64 0, .slice none 0 0] 25) = V := ⟨_, rfl⟩
  have hR1 : VB B 0 (.slice none 0 0) w1 := by rw [← hw1, ← hB]; exact heap_alloc_new _ _
  have hB1 : Below B w w1 := by rw [← hw1]; exact (Below.refl _ _).alloc (by omega) _
  have hs1 : w1.heap.size = B + 1 := by rw [← hw1]; simp [hB]
  have HL := Lib.hid hl
  have HLN := Lib.hid hln
  have HW1 := Lib.hid hw1
  have HBE := Lib.hid hB
  clear hl hln hw1
  rw [hB]
  clear hB
  go_enter Try.func17, Try.ntmps17
  go_wp2_with (first | (go_at_call 41; refine (HH.out _).mono ?_; rintro e w' ⟨rfl, rfl⟩) | fail)
  rw [HW1.out]
  simp only [HBE.out]
  have hv2 : VB (B + 1) num (.slice none 0 0) (w1.alloc (.cells #[.int .i64 num, .slice none 0 0] 25)) := by rw [← hs1]; exact heap_alloc_new _ _
  have hb2 : Below (B + 1) w1 (w1.alloc (.cells #[.int .i64 num, .slice none 0 0] 25)) := (Below.refl _ _).alloc (by omega) _
  generalize w1.alloc (.cells #[.int .i64 num, .slice none 0 0] 25) = w2 at hv2 hb2 ⊢
  have HR1 := Lib.hid hR1
  have HB1 := Lib.hid hB1
  have HV2 := Lib.hid hv2
  have HB2 := Lib.hid hb2
  clear hR1 hB1 hv2 hb2
  go_loopw [25] (fun i wr => ∃ (k : Nat) (v : Value), k ≤ n ∧ i = .int .i64 k ∧ VB (B + 1) num v wr ∧ NamesOwn wr (B + 2) v ((l.take k).map Vm.nm) ∧ Below (B + 1) w1 wr ∧ ∀ j (hj : j < l.length), j < k → Vm.okC l[j] = true) (fun i wr => n - (intOf i).toNat)
  case atStart => exact ⟨0, _, by omega, rfl, HV2.out, NamesOwn.nil _ _, HB2.out, fun j _ h => absurd h (by omega)⟩
  case round =>
    obtain ⟨k, v, hk, rfl, hvr, hrow, hBr, hok⟩ := hrel
    have hsz := hBr.size
    have hbs := hvr.lt
    by_cases hlt : k < n
    · have d8 : decide ((k : Int) < (n : Int)) = true := by simp; omega
      obtain ⟨g, o, rfl, hg, hzl, y0⟩ := HL.out.at hlt
      rw [List.getElem_map] at y0
      have hkl : k < l.length := by rw [HLN.out]; exact hlt
      obtain ⟨x, hx⟩ : ∃ x, Cm.b l[k] = x := ⟨_, rfl⟩
      unfold Cm.str at y0
      rw [hx] at y0
      rw [HBE.out] at hg
      have z0 := (hBr.cell (p := ⟨g, o + k, none⟩) (show g < B + 1 by omega)).trans ((HB1.out.cell (p := ⟨g, o + k, none⟩) hg).trans y0)
      have hxl : x.data.toList = l[k] := by rw [← hx, Cm.b_list]
      have hxs : x.size = l[k].length := by rw [← hxl]; simp
      have hxm := hz _ (List.getElem_mem hkl)
      have hr := HR1.out.below hBr (show B < B + 1 by omega)
      obtain ⟨t0, t1, t2, t3⟩ := And.intro hr.c0 (And.intro hr.c1 (And.intro hr.f0 hr.f1))
      have HBr := Lib.hid hBr
      have HOK := Lib.hid hok
      have HXL := Lib.hid hxl
      have HXS := Lib.hid hxs
      have S0 := fun V => msized_any (x.size : Int) V
      rw [← hxs] at hxm
      clear hBr hok y0 hx hzl hxl hxs hr
      by_cases e1 : 1 ≤ (x.size : Int) ∧ (x.size : Int) ≤ 256
      · have HG := Lib.hid (show Vm.okC l[k] = true by unfold Vm.okC; rw [← HXS.out]; simp; omega)
        rw [show Vm.szd (x.size : Int) = true by unfold Vm.szd; exact decide_eq_true e1] at S0
        have SH := Lib.hid S0
        have hN := mname_any x
        rw [HXL.out] at hN
        obtain ⟨y, hy⟩ : ∃ y, Vm.nm l[k] = y := ⟨_, rfl⟩
        rw [hy] at hN
        have HN := Lib.hid hN
        have HY := Lib.hid (show (l.take (k + 1)).map Vm.nm = (l.take k).map Vm.nm ++ [y] by rw [List.take_succ_eq_append_getElem hkl, List.map_append, ← hy]; rfl)
        have hkk : ((l.take k).map Vm.nm).length = k := by rw [List.length_map, List.length_take]; omega
        obtain ⟨P, hP⟩ : ∃ P, (l.take k).map Vm.nm = P := ⟨_, rfl⟩
        rw [hP] at hrow hkk HY
        have HROW := Lib.hid hrow
        have HVR := Lib.hid hvr
        have HKK := Lib.hid hkk
        have q1 := hvr.c1
        clear hN hy hP hrow hvr hkk t0 t1 t2 t3 S0 e1
        obtain ⟨ya, yb⟩ := y
        have hHN : ∀ V : World, Calls Try.prog 43 #[.string x] V fun e w' => e = .returned (.agg #[.int .i64 ya, .int .i64 yb]) ∧ Below V.heap.size V w' := fun V => HN.out V (by unfold maxLen; omega)
        have HM := Lib.hid hHN
        have hkk2 := HKK.out
        have hrl : ∀ b', v.ownBlock = some b' → B + 2 ≤ b' := fun b' hb' => (World.ownsRow.lt HROW.out _ hb').1
        have HRL := Lib.hid hrl
        clear HN hHN hrl
        go_wp2_with (first | (go_at_call 42; refine (SH.out _).mono ?_; rintro e w' ⟨rfl, hw'⟩; subst w') | fail)
        go_region_law (first | (go_simp; go_at_call 43; refine (HM.out _).mono ?_; rintro e W2 ⟨rfl, hB2⟩; have hV2 := VB.below (show VB (B + 1) num v wr.drew from HVR.out) hB2 hbs; have c1' := hV2.c1; have hO2 := Lib.hid (NamesOwn.below (show NamesOwn wr.drew (B + 2) v P from HROW.out) hB2); have hbs2 : B + 1 < W2.heap.size := Nat.lt_of_lt_of_le hbs hB2.size; have HV2 := Lib.hid hV2; have HB2' := Lib.hid hB2; clear hV2 hB2) | (refine step_append_lies _ rfl (.tmp 35) (.tmp 38) 23 rfl (B + 2) 59 i0 (.agg #[.int .i64 0, .int .i64 0]) 2 16 Try.underlying23 hi hz0 hz1 hz2 rfl (by decide) v P.length (Vm.cells P) (by simp [Act.eval]) (hO2.out.alloc _) ⟨W2.heap.size, 0, none⟩ 1 1 [.int .i64 ya, .int .i64 yb] (by simp [Act.eval]) rfl (cell_two_new _ _ _ _) (by simp [Value.oneCell']) (by omega) (by unfold maxLen; omega) (by omega) (by simp <;> omega) _ rfl ?_; intro g4 cap4 w4 hown4 hgrow4 hat4 hlt4; have hv4 : VB (B + 1) num v w4 := (hgrow4.block (B + 1) (by simp <;> omega) (fun e => by have := HRL.out _ e.symm; omega)).trans ((Below.heap_alloc _ _ _ hbs2).trans HV2.out); have d1 := hv4.c1; have d2 := hv4.f1; have HV4 := Lib.hid hv4; have HO4 := Lib.hid hown4; have HG4 := Lib.hid hgrow4; clear hv4 hown4 hgrow4 hat4 hlt4))
        all_goals have HB4 := Lib.hid (show Below (B + 1) w1 w4 from ((HBr.out.drew.trans (HB2'.out.mono (by show B + 1 ≤ wr.heap.size; omega))).alloc (by omega) _).grown HG4.out (by simp <;> omega) (fun b hb => by have := HRL.out b hb; omega))
        all_goals have HV5 := Lib.hid (show VB (B + 1) num (.slice (some ⟨g4, 0, none⟩) (k + 1) cap4) (w4.setCell ⟨B + 1, 1, none⟩ (.slice (some ⟨g4, 0, none⟩) (k + 1) cap4)) from two_set1 HV4.out)
        all_goals have HR5 := Lib.hid (show NamesOwn (w4.setCell ⟨B + 1, 1, none⟩ (.slice (some ⟨g4, 0, none⟩) (k + 1) cap4)) (B + 2) (.slice (some ⟨g4, 0, none⟩) (k + 1) cap4) ((l.take (k + 1)).map Vm.nm) from by
          rw [HY.out]
          refine NamesOwn.setCell ?_ (by show B + 1 < B + 2; omega) _
          unfold NamesOwn
          rw [Vm.cells_snoc, List.length_append, List.length_singleton]
          have h := HO4.out
          rw [hkk2] at h ⊢
          exact h)
        all_goals go_wp2
        all_goals go_roundw
        case rel => exact ⟨k + 1, _, by omega, by go_num, HV5.out, HR5.out, HB4.out.setCell (by show B + 1 ≤ B + 1; omega) _, fun j hj h => by
          by_cases e : j = k
          · subst e; exact HG.out
          · exact HOK.out j hj (by omega)⟩
        case measure => simp [intOf]; omega
        case rel => exact ⟨k + 1, _, by omega, by go_num, HV5.out, HR5.out, HB4.out.setCell (by show B + 1 ≤ B + 1; omega) _, fun j hj h => by
          by_cases e : j = k
          · subst e; exact HG.out
          · exact HOK.out j hj (by omega)⟩
        case measure => simp [intOf]; omega
        case rel => exact ⟨k + 1, _, by omega, by go_num, HV5.out, HR5.out, HB4.out.setCell (by show B + 1 ≤ B + 1; omega) _, fun j hj h => by
          by_cases e : j = k
          · subst e; exact HG.out
          · exact HOK.out j hj (by omega)⟩
        case measure => simp [intOf]; omega
      · have HF := Lib.hid (Vm.ofV_form h12 h32 hkl (by unfold Vm.okC; rw [← HXS.out]; simp; omega))
        rw [show Vm.szd (x.size : Int) = false by unfold Vm.szd; exact decide_eq_false e1] at S0
        have SH := Lib.hid S0
        clear S0
        go_wp2_with (first | (go_at_call 42; refine (SH.out _).mono ?_; rintro e w' ⟨rfl, hw'⟩; subst w') | fail)
        exact bodyPost_ret (v := .tuple #[.agg #[.int .i64 0, .slice none 0 0], .int .i64 2]) (by simp [results, Try.results17, go_sem, t0, t1]) rfl ⟨.slice none 0 0, by rw [HF.out], by rw [HF.out]; exact NamesOwn.nil _ _, ((HB1.out.trans (HBr.out.mono (by omega))).setCell (Nat.le_refl _) _).setCell (Nat.le_refl _) _⟩
    · obtain rfl : k = n := by omega
      have htk : (l.take k).map Vm.nm = l.map Vm.nm := by rw [List.take_of_length_le (by rw [HLN.out]; exact Nat.le_refl _)]
      rw [htk] at hrow
      obtain ⟨A', c', rfl, hni⟩ := own_names hrow
      have hlm : (l.map Vm.nm).length = k := by rw [List.length_map, HLN.out]
      rw [hlm] at hni hvr hrow
      have hcl := HL.out.below (HB1.out.trans (hBr.mono (by omega)) |>.mono (by rw [HBE.out]; exact Nat.le_refl _))
      have HCO := Lib.hid (contents_any A k c l wr hcl hz hn)
      have HNI := Lib.hid hni
      have HROW := Lib.hid hrow
      have HVR := Lib.hid hvr
      have HBr := Lib.hid hBr
      have HOK := Lib.hid (fun i (hi : i < l.length) => hok i hi (by rw [HLN.out] at hi; exact hi))
      have d8 : decide ((k : Int) < (k : Int)) = false := by simp
      clear htk hlm hni hcl hrow hvr hBr hok hlt
      go_wp2_with fail
      refine HCO.out.mono ?_
      rintro e w3 ⟨bm, rfl, hbm, hB3, hM3⟩
      have hv3 := HVR.out.below hB3 hbs
      have q0 := hv3.c0
      have q1 := hv3.c1
      have HV3 := Lib.hid hv3
      have HNI3 := Lib.hid (HNI.out.below hB3)
      have HM3 := Lib.hid hM3
      have hs3 := hB3.size
      have HB3 := Lib.hid hB3
      have HR3 := Lib.hid ((HR1.out.below HBr.out (show B < B + 1 by omega)).below hB3 (by omega))
      have HROW3 := Lib.hid (HROW.out.below hB3)
      clear hv3 hM3 hB3
      go_wp2_with fail
      go_loopw [47] (fun i wq => ∃ a : Nat, a ≤ k ∧ i = .int .i64 a ∧ Below w3.heap.size w3 wq ∧ ∀ j (hj : j < l.length), j < a → ¬ 1 < (Vm.duo (Vm.pick (Vm.nm l[j]) l)).length) (fun i _ => k - (intOf i).toNat)
      case atStart => exact ⟨0, by omega, rfl, Below.refl _ _, fun j _ h => absurd h (by omega)⟩
      case round =>
        obtain ⟨a, ha, rfl, hBq, hfree⟩ := hrel
        have HFR := Lib.hid hfree
        have hsq := hBq.size
        have HBQ := Lib.hid hBq
        have hrq := HR3.out.below hBq (by omega)
        obtain ⟨t0, t1, t2, t3⟩ := And.intro hrq.c0 (And.intro hrq.c1 (And.intro hrq.f0 hrq.f1))
        have hvq := HV3.out.below hBq (by omega)
        have u0 := hvq.c0
        have u1 := hvq.c1
        clear hfree hrq hvq hBq q0 q1
        by_cases hlt : a < k
        · have d9 : decide ((a : Int) < (k : Int)) = true := by simp; omega
          obtain ⟨g', o', rfl, hg', hza, y0, y1⟩ := HNI3.out.at hlt
          rw [List.getElem_map] at y0 y1
          have na0 := (HBQ.out.cell (p := ⟨g', o' + a * 2, none⟩) hg').trans y0
          have na1 := (HBQ.out.cell (p := ⟨g', o' + a * 2 + 1, none⟩) hg').trans y1
          have hal : a < l.length := by rw [HLN.out]; exact hlt
          have hwf : Vm.wf (Vm.nm l[a]) := Vm.nm_wf (hz _ (List.getElem_mem hal))
          obtain ⟨v, hlk, hov⟩ := ((HM3.out.below HBQ.out).below ((Below.refl _ _).alloc (Nat.le_refl _) (.cells #[.int .i64 (Vm.nm l[a]).1, .int .i64 (Vm.nm l[a]).2] 59))).look hwf
          obtain ⟨T, hT⟩ : ∃ T, (Vm.duo (Vm.pick (Vm.nm l[a]) l)).length = T := ⟨_, rfl⟩
          obtain ⟨A1, c1, rfl, _⟩ := own_cells hov
          rw [hT] at hlk
          obtain ⟨Y, hY⟩ : ∃ Y, Vm.nm l[a] = Y := ⟨_, rfl⟩
          have HY := Lib.hid hY
          have HT := Lib.hid hT
          rw [hY] at na0 na1 hlk
          obtain ⟨ya, yb⟩ := Y
          simp only at na0 na1 hlk
          have hlk : (Instr.lookup 72 (.map (some bm)) (.agg #[.int .i64 ya, .int .i64 yb]) false).run Try.prog (wr.alloc (.cells #[.int .i64 ya, .int .i64 yb] 59)) = .ok (.slice A1 T c1) (wr.alloc (.cells #[.int .i64 ya, .int .i64 yb] 59)) := hlk
          have hra : VB B 0 (.slice none 0 0) (wr.alloc (.cells #[.int .i64 ya, .int .i64 yb] 59)) := (HR3.out.below HBQ.out (by omega)).below ((Below.refl _ _).alloc (Nat.le_refl _) _) (by omega)
          clear y0 y1 hza hwf hov hT hY hg' t0 t1 t2 t3
          obtain ⟨t0, t1, t2, t3⟩ := And.intro hra.c0 (And.intro hra.c1 (And.intro hra.f0 hra.f1))
          clear hra
          by_cases hc : 1 < T
          · have e0 : decide ((1 : Int) < (T : Int)) = true := by simp; omega
            have HF := Lib.hid (Vm.ofV_clash' (num := num) h12 h32 HOK.out (Vm.clash_of_two (by rw [HT.out]; exact hc)))
            go_wp2_with fail
            exact bodyPost_ret (v := .tuple #[.agg #[.int .i64 0, .slice none 0 0], .int .i64 8]) (by simp [results, Try.results17, go_sem, t0, t1]) rfl ⟨.slice none 0 0, by rw [HF.out], by rw [HF.out]; exact NamesOwn.nil _ _, ((((HB1.out.trans (HBr.out.mono (by omega))).trans ((HB3.out.trans (HBQ.out.mono (by omega))).mono (by omega))).alloc (by omega) _).setCell (p := ⟨B, 0, none⟩) (Nat.le_refl _) _).setCell (p := ⟨B, 1, none⟩) (Nat.le_refl _) _⟩
          · have e0 : decide ((1 : Int) < (T : Int)) = false := by simp; omega
            have HN := Lib.hid (show ∀ j (hj : j < l.length), j < a + 1 → ¬ 1 < (Vm.duo (Vm.pick (Vm.nm l[j]) l)).length from fun j hj h => by
              by_cases e : j = a
              · subst e; rw [HT.out]; exact hc
              · exact HFR.out j hj (by omega))
            go_wp2_with fail
            go_roundw
            case rel => exact ⟨a + 1, by omega, by go_num, HBQ.out.alloc hsq _, HN.out⟩
            case measure => simp [intOf]; omega
        · obtain rfl : a = k := by omega
          have d9 : decide ((a : Int) < (a : Int)) = false := by simp
          have HF := Lib.hid (Vm.ofV_ok' (num := num) h12 h32 HOK.out (Vm.no_clash (fun j hj => HFR.out j hj (by rw [HLN.out] at hj; exact hj))))
          go_wp2_with fail
          exact bodyPost_ret (v := .tuple #[.agg #[.int .i64 num, .slice A' a c'], .int .i64 0]) (by simp [results, Try.results17, go_sem, t0, t1]) rfl ⟨.slice A' a c', by rw [HF.out], by
            rw [HF.out]
            exact NamesOwn.mono (NamesOwn.setCell (a := ⟨B, 1, none⟩) (NamesOwn.setCell (a := ⟨B, 0, none⟩) (NamesOwn.below HROW3.out HBQ.out) (show B < B + 2 by omega) _) (show B < B + 2 by omega) _) (by omega), (((HB1.out.trans (HBr.out.mono (by omega))).trans ((HB3.out.trans (HBQ.out.mono (by omega))).mono (by omega))).setCell (p := ⟨B, 0, none⟩) (Nat.le_refl _) _).setCell (p := ⟨B, 1, none⟩) (Nat.le_refl _) _⟩

end Go.Proofs.Ytebkgndcgcdogaa
