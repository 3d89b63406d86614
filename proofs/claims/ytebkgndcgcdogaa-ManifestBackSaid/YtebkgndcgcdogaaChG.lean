/-
  Contract of the reference's Ends.
-/
import Derived.Test.YtebkgndcgcdogaaChF
namespace Go.Proofs.Ytebkgndcgcdogaa
open Go.RowKit
set_option maxHeartbeats 2000000

theorem Cm.endsF_snoc (P : List (List UInt8)) (x : List UInt8) : ∀ a, Cm.endsF a (P ++ [x]) = Cm.endsF a P ++ [((a + P.flatten.length + x.length : Nat) : Int)] := by
  induction P with
  | nil => intro a; simp [Cm.endsF]
  | cons y P ih => intro a; simp only [List.cons_append, Cm.endsF, ih, List.flatten_cons, List.length_append]; congr 4; omega
/-- what a chunk's end does to the reference's relation -/
theorem Cm.stop_step {c : Cm.C} (hc : c.ok) {l : List UInt8} {P : List (List UInt8)} {a i : Nat} (ha : P.flatten.length = a) (hP : P ++ Cm.cut c (l.drop a) = Cm.cut c l) (hai : a < i) (hil : i ≤ l.length)
    (hs : Cm.stop c (l.drop a) (i - a)) (hn : ∀ j, 1 ≤ j → j < i - a → ¬ Cm.stop c (l.drop a) j) :
    ∃ P' : List (List UInt8), P'.flatten.length = i ∧ P' ++ Cm.cut c (l.drop i) = Cm.cut c l ∧ Cm.endsF 0 P' = Cm.endsF 0 P ++ [(i : Int)] := by
  have hfl := Cm.fl_stop hc (s := l.drop a) (r := i - a) (by rw [List.length_drop]; omega) hs hn
  have hne : l.drop a ≠ [] := fun e => by have := congrArg List.length e; rw [List.length_drop] at this; simp at this; omega
  have hcc := Cm.cut_cons hc hne
  have hx : ((l.drop a).take (i - a)).length = i - a := by rw [List.length_take, List.length_drop]; omega
  rw [hfl, List.drop_drop, show a + (i - a) = i by omega] at hcc
  refine ⟨P ++ [(l.drop a).take (i - a)], ?_, ?_, ?_⟩
  · rw [List.flatten_append, List.length_append, List.flatten_singleton, hx]; omega
  · rw [List.append_assoc, ← hP, hcc]; rfl
  · rw [Cm.endsF_snoc, hx]; congr 2; omega

set_option maxRecDepth 100000 in
theorem rends_ok (s : ByteArray) (c : Cm.C) (w : World) (hc : c.ok) (hs : s.size ≤ 16384) :
    Calls Try.prog 61 #[.string s, c.val] w (Cm.RetI w.heap.size w (Cm.endsF 0 (Cm.cutR c s.data.toList).1, (Cm.cutR c s.data.toList).2)) := by
  obtain ⟨r, hr⟩ : ∃ r, (Cm.endsF 0 (Cm.cutR c s.data.toList).1, (Cm.cutR c s.data.toList).2) = r := ⟨_, rfl⟩
  rw [hr]
  have hchk : Cm.chk c.L c.M c.W c.K = 0 := by
    unfold Cm.chk Cm.okB
    have h1 := hc.l4; have h2 := hc.lm; have h3 := hc.m256; have h4 := hc.w1; have h5 := hc.wl; have h6 := hc.k1; have h7 := hc.k1024
    rw [if_pos]; simp; omega
  have CK := Lib.hid (fun V => hchk ▸ rcheck_any c.L c.M c.W c.K V)
  obtain ⟨i0, hi, hz0, hz1, hz2⟩ := info_parts info_i64
  have hls : s.data.toList.length = s.size := size_list s
  obtain ⟨l, hl⟩ : ∃ l, s.data.toList = l := ⟨_, rfl⟩
  rw [hl] at hr hls
  have HC := Lib.hid hc
  have HR := Lib.hid hr
  have HL := Lib.hid hl
  have HLS := Lib.hid hls
  clear hchk hc hr hl hls
  unfold Cm.C.val Cm.C.cells
  obtain ⟨L, M, W, K⟩ := c
  obtain ⟨hc1, hc2, hc3, hc4, hc5, hc6, hc7⟩ := HC.out
  simp only at CK HR hc1 hc2 hc3 hc4 hc5 hc6 hc7 ⊢
  go_enter Try.func61, Try.ntmps61
  go_wp2_with fail
  refine (CK.out _).mono ?_
  rintro e w2 ⟨rfl, hB2⟩
  go_wp2_with fail
  obtain ⟨B, hB⟩ : ∃ B, w.heap.size = B := ⟨_, rfl⟩
  have hx : ∀ j v, (#[Value.int .i64 L, .int .i64 M, .int .i64 W, .int .i64 K] : Array Value)[j]? = some v → w2.cell? ⟨B, j, none⟩ = some v := fun j v h => by
    rw [hB2.cell (p := ⟨B, j, none⟩) (by show B < _; simp; omega), cell_new_at _ _ _ _ hB.symm, h]
  have hBB : Below B w w2 := ((Below.refl B w).alloc (by omega) _).trans (hB2.mono (by simp; omega))
  have hsz : B + 1 ≤ w2.heap.size := by have := hB2.size; simp at this; omega
  rw [hB]
  have HX := Lib.hid hx
  have HBB := Lib.hid hBB
  have HS := Lib.hid hB
  clear hB2 hx hBB hB CK
  go_loopw [7, 8, 9] (fun v p i wr => ∃ (P : List (List UInt8)) (a k : Nat), p = .int .i64 a ∧ i = .int .i64 k ∧ a < k ∧ a ≤ s.size ∧ k ≤ s.size + 1 ∧ P.flatten.length = a ∧ P ++ Cm.cut ⟨L, M, W, K⟩ (l.drop a) = Cm.cut ⟨L, M, W, K⟩ l ∧
    (∀ j, 1 ≤ j → j < k - a → ¬ Cm.stop ⟨L, M, W, K⟩ (l.drop a) j) ∧ wr.ownsRow (B + 1) 3 1 v P.length ((Cm.endsF 0 P).map (Value.int .i64)) ∧ P.length ≤ a ∧ Below (B + 1) w2 wr) (fun v p i wr => s.size + 1 - (intOf i).toNat)
  case atStart => exact ⟨[], 0, 1, rfl, rfl, by omega, by omega, by omega, rfl, rfl, fun j h1 h2 => by omega, World.ownsRow_nil _ _ _ _, Nat.le_refl _, Below.refl _ _⟩
  case round =>
    obtain ⟨P, a, k, rfl, rfl, hak, has, hks, hfl, hcut, hno, hown, hPa, hBr⟩ := hrel
    have x0 := (hBr.cell (p := ⟨B, 0, none⟩) (by show B < _; omega)).trans (HX.out 0 _ rfl)
    have x1 := (hBr.cell (p := ⟨B, 1, none⟩) (by show B < _; omega)).trans (HX.out 1 _ rfl)
    have x2 := (hBr.cell (p := ⟨B, 2, none⟩) (by show B < _; omega)).trans (HX.out 2 _ rfl)
    have x3 := (hBr.cell (p := ⟨B, 3, none⟩) (by show B < _; omega)).trans (HX.out 3 _ rfl)
    have hsr : B + 1 ≤ wr.heap.size := Nat.le_trans hsz hBr.size
    obtain ⟨wo, hwo⟩ : ∃ wo : World, wo = wr := ⟨_, rfl⟩
    rw [← hwo] at hown hBr x0 x1 x2 x3 hsr ⊢
    have HFL := Lib.hid hfl
    have HCut := Lib.hid hcut
    have HNo := Lib.hid hno
    have HO := Lib.hid hown
    have HBr := Lib.hid hBr
    clear hwo hfl hcut hno hown hBr
    by_cases hlt : k ≤ s.size
    · obtain ⟨n, hn⟩ : ∃ n, k - a = n := ⟨_, rfl⟩
      have hn1 : (k : Int) - (a : Int) = (n : Int) := by omega
      have hn0 : 1 ≤ n := by omega
      have b1 : (0 : Int) ≤ (a : Int) := by omega
      have b2 : (a : Int) ≤ (k : Int) := by omega
      have b3 : (k : Int) ≤ (s.size : Int) := by omega
      have HNk := Lib.hid hn
      clear hn
      by_cases hM : n = M
      · have e1 : ((n : Int) == (M : Int)) = true := beq_iff_eq.2 (by omega)
        have HStop := Lib.hid (show Cm.stop ⟨L, M, W, K⟩ (l.drop a) (k - a) from .inl (by rw [HNk.out]; exact hM))
        clear hM
        go_wp2
        go_quiet (fail)
        go_wp2_with (at_builtin; refine wpList_append_own _ rfl _ _ 22 rfl (B + 1) 3 i0 (.int .i64 0) 1 8 Try.underlying22 hi hz0 hz1 hz2 rfl (by decide) _ _ _ rfl ((own_below HO.out ⟨rfl, rfl, rfl, Nat.le_refl _, fun _ _ => rfl⟩).alloc _) ⟨wo.heap.size, 0, none⟩ 1 1 [.int .i64 (k : Nat)] rfl rfl (cell_one_new _ _ _) (by simp [Value.oneCell']) (by unfold maxLen; omega) (by omega) (by simp; omega) ?_; intro v' w1 hown' hgrow _; have HO1 := Lib.hid hown'; have HG := Lib.hid hgrow; clear hown' hgrow)
        have HB1 := Lib.hid (grown_below HG.out (HBr.out.trans ⟨rfl, rfl, rfl, Nat.le_refl _, fun _ _ => rfl⟩) hsr (fun g hg => (HO.out.lt g hg).1))
        obtain ⟨P', hp1, hp2, hp3⟩ := Cm.stop_step HC.out HFL.out HCut.out hak (by rw [HLS.out]; exact hlt) HStop.out HNo.out
        have hpl : P'.length = P.length + 1 := by have := congrArg List.length hp3; rw [Cm.endsF_length, List.length_append, Cm.endsF_length] at this; exact this
        have HP1 := Lib.hid hp1
        have HP2 := Lib.hid hp2
        have HP3 := Lib.hid hp3
        have HPL := Lib.hid hpl
        clear hp1 hp2 hp3 hpl
        go_roundw
        case rel =>
          refine ⟨P', k, k + 1, rfl, by go_num, by omega, hlt, by omega, HP1.out, HP2.out, fun j h1 h2 => by omega, ?_, by rw [HPL.out]; omega, HB1.out⟩
          rw [HPL.out, HP3.out, List.map_append]; exact HO1.out
        case measure => simp [intOf]; omega
      have e1 : ((n : Int) == (M : Int)) = false := beq_eq_false_iff_ne.2 (by omega)
      have e3 : (k = s.size ∧ ((k : Int) == (s.size : Int)) = true) ∨ (k ≠ s.size ∧ ((k : Int) == (s.size : Int)) = false) := by
        by_cases h : k = s.size
        · exact .inl ⟨h, beq_iff_eq.2 (by omega)⟩
        · exact .inr ⟨h, beq_eq_false_iff_ne.2 (by omega)⟩
      have hln : k - a = (l.drop a).length ↔ k = s.size := by rw [List.length_drop, HLS.out]; omega
      have HLN := Lib.hid hln
      clear hln
      by_cases hLn : L ≤ n
      · have e2 : decide ((L : Int) ≤ (n : Int)) = true := by simp; omega
        obtain ⟨T, hT⟩ : ∃ T, s.extract a k = T := ⟨_, rfl⟩
        have hTs : T.size ≤ 100000 := by rw [← hT, ByteArray.size_extract]; omega
        have hTl : T.data.toList = (l.drop a).take n := by rw [← hT, ← HL.out, ← HNk.out]; simp [List.extract_eq_take_drop]
        obtain ⟨u, hu⟩ : ∃ u, Cm.wt T.data.toList (W : Int).toNat = u := ⟨_, rfl⟩
        have hub : u ≤ 256 * 100000 * 100000 := by
          have h := Cm.wt_le T.data.toList (W : Int).toNat
          have hq : T.data.toList.length ≤ 100000 := by rw [size_list]; exact hTs
          have := Nat.mul_le_mul (Nat.mul_le_mul_left 256 hq) hq
          omega
        have W1 := Lib.hid (fun V => hu ▸ rweight_any T (W : Nat) V hTs (by omega) (by omega))
        obtain ⟨x, hx⟩ : ∃ x, u % K = x := ⟨_, rfl⟩
        have hat : Cm.at' ⟨L, M, W, K⟩ (l.drop a) n = decide (x = 0) := by unfold Cm.at'; rw [← hTl, ← hx, ← hu]; rfl
        have hxk : x < K := by rw [← hx]; exact Nat.mod_lt _ (by omega)
        have f1 : (u : Int).tmod (K : Int) = (x : Int) := by rw [Int.tmod_eq_emod_of_nonneg (by omega), ← hx]; simp
        have f2 : ¬ (K : Int) = 0 := by omega
        have HAt := Lib.hid hat
        have HTl := Lib.hid hTl
        clear hat hTl hu hx
        by_cases h0 : x = 0
        · subst h0
          have HStop := Lib.hid (show Cm.stop ⟨L, M, W, K⟩ (l.drop a) (k - a) from .inr (.inl ⟨by rw [HNk.out]; exact hLn, by rw [HNk.out, HAt.out]; rfl⟩))
          clear e3
          go_wp2
          go_quiet ((go_at_call 77; exact Calls.quiet_same (W1.out _)))
          go_wp2_with (at_builtin; refine wpList_append_own _ rfl _ _ 22 rfl (B + 1) 3 i0 (.int .i64 0) 1 8 Try.underlying22 hi hz0 hz1 hz2 rfl (by decide) _ _ _ rfl ((own_below HO.out ⟨rfl, rfl, rfl, Nat.le_refl _, fun _ _ => rfl⟩).alloc _) ⟨wo.heap.size, 0, none⟩ 1 1 [.int .i64 (k : Nat)] rfl rfl (cell_one_new _ _ _) (by simp [Value.oneCell']) (by unfold maxLen; omega) (by omega) (by simp; omega) ?_; intro v' w1 hown' hgrow _; have HO1 := Lib.hid hown'; have HG := Lib.hid hgrow; clear hown' hgrow)
          have HB1 := Lib.hid (grown_below HG.out (HBr.out.trans ⟨rfl, rfl, rfl, Nat.le_refl _, fun _ _ => rfl⟩) hsr (fun g hg => (HO.out.lt g hg).1))
          obtain ⟨P', hp1, hp2, hp3⟩ := Cm.stop_step HC.out HFL.out HCut.out hak (by rw [HLS.out]; exact hlt) HStop.out HNo.out
          have hpl : P'.length = P.length + 1 := by have := congrArg List.length hp3; rw [Cm.endsF_length, List.length_append, Cm.endsF_length] at this; exact this
          have HP1 := Lib.hid hp1
          have HP2 := Lib.hid hp2
          have HP3 := Lib.hid hp3
          have HPL := Lib.hid hpl
          clear hp1 hp2 hp3 hpl
          go_roundw
          case rel =>
            refine ⟨P', k, k + 1, rfl, by go_num, by omega, hlt, by omega, HP1.out, HP2.out, fun j h1 h2 => by omega, ?_, by rw [HPL.out]; omega, HB1.out⟩
            rw [HPL.out, HP3.out, List.map_append]; exact HO1.out
          case measure => simp [intOf]; omega
        have g0 : ((x : Int) == 0) = false := beq_eq_false_iff_ne.2 (by omega)
        rcases e3 with ⟨hks2, e3⟩ | ⟨hks2, e3⟩
        · have HStop := Lib.hid (show Cm.stop ⟨L, M, W, K⟩ (l.drop a) (k - a) from .inr (.inr (HLN.out.2 hks2)))
          clear hks2
          go_wp2
          go_quiet ((go_at_call 77; exact Calls.quiet_same (W1.out _)))
          go_wp2_with (at_builtin; refine wpList_append_own _ rfl _ _ 22 rfl (B + 1) 3 i0 (.int .i64 0) 1 8 Try.underlying22 hi hz0 hz1 hz2 rfl (by decide) _ _ _ rfl ((own_below HO.out ⟨rfl, rfl, rfl, Nat.le_refl _, fun _ _ => rfl⟩).alloc _) ⟨wo.heap.size, 0, none⟩ 1 1 [.int .i64 (k : Nat)] rfl rfl (cell_one_new _ _ _) (by simp [Value.oneCell']) (by unfold maxLen; omega) (by omega) (by simp; omega) ?_; intro v' w1 hown' hgrow _; have HO1 := Lib.hid hown'; have HG := Lib.hid hgrow; clear hown' hgrow)
          have HB1 := Lib.hid (grown_below HG.out (HBr.out.trans ⟨rfl, rfl, rfl, Nat.le_refl _, fun _ _ => rfl⟩) hsr (fun g hg => (HO.out.lt g hg).1))
          obtain ⟨P', hp1, hp2, hp3⟩ := Cm.stop_step HC.out HFL.out HCut.out hak (by rw [HLS.out]; exact hlt) HStop.out HNo.out
          have hpl : P'.length = P.length + 1 := by have := congrArg List.length hp3; rw [Cm.endsF_length, List.length_append, Cm.endsF_length] at this; exact this
          have HP1 := Lib.hid hp1
          have HP2 := Lib.hid hp2
          have HP3 := Lib.hid hp3
          have HPL := Lib.hid hpl
          clear hp1 hp2 hp3 hpl
          go_roundw
          case rel =>
            refine ⟨P', k, k + 1, rfl, by go_num, by omega, hlt, by omega, HP1.out, HP2.out, fun j h1 h2 => by omega, ?_, by rw [HPL.out]; omega, HB1.out⟩
            rw [HPL.out, HP3.out, List.map_append]; exact HO1.out
          case measure => simp [intOf]; omega
        · have HStop := Lib.hid (show ¬ Cm.stop ⟨L, M, W, K⟩ (l.drop a) (k - a) from fun h => by
            rcases h with h | ⟨h, h2⟩ | h
            · exact hM (by rw [← HNk.out]; exact h)
            · rw [HNk.out, HAt.out] at h2; exact h0 (of_decide_eq_true h2)
            · exact hks2 (HLN.out.1 h))
          clear hks2
          go_wp2
          go_quiet ((go_at_call 77; exact Calls.quiet_same (W1.out _)))
          go_wp2
          go_roundw
          case rel =>
            refine ⟨P, a, k + 1, rfl, by go_num, by omega, has, by omega, HFL.out, HCut.out, fun j h1 h2 => ?_, own_below HO.out ⟨rfl, rfl, rfl, Nat.le_refl _, fun _ _ => rfl⟩, hPa, HBr.out.trans ⟨rfl, rfl, rfl, Nat.le_refl _, fun _ _ => rfl⟩⟩
            by_cases hj : j < k - a
            · exact HNo.out j h1 hj
            · obtain rfl : j = k - a := by omega
              exact HStop.out
          case measure => simp [intOf]; omega
      · have e2 : decide ((L : Int) ≤ (n : Int)) = false := by simp; omega
        rcases e3 with ⟨hks2, e3⟩ | ⟨hks2, e3⟩
        · have HStop := Lib.hid (show Cm.stop ⟨L, M, W, K⟩ (l.drop a) (k - a) from .inr (.inr (HLN.out.2 hks2)))
          clear hks2
          go_wp2
          go_quiet (fail)
          go_wp2_with (at_builtin; refine wpList_append_own _ rfl _ _ 22 rfl (B + 1) 3 i0 (.int .i64 0) 1 8 Try.underlying22 hi hz0 hz1 hz2 rfl (by decide) _ _ _ rfl ((own_below HO.out ⟨rfl, rfl, rfl, Nat.le_refl _, fun _ _ => rfl⟩).alloc _) ⟨wo.heap.size, 0, none⟩ 1 1 [.int .i64 (k : Nat)] rfl rfl (cell_one_new _ _ _) (by simp [Value.oneCell']) (by unfold maxLen; omega) (by omega) (by simp; omega) ?_; intro v' w1 hown' hgrow _; have HO1 := Lib.hid hown'; have HG := Lib.hid hgrow; clear hown' hgrow)
          have HB1 := Lib.hid (grown_below HG.out (HBr.out.trans ⟨rfl, rfl, rfl, Nat.le_refl _, fun _ _ => rfl⟩) hsr (fun g hg => (HO.out.lt g hg).1))
          obtain ⟨P', hp1, hp2, hp3⟩ := Cm.stop_step HC.out HFL.out HCut.out hak (by rw [HLS.out]; exact hlt) HStop.out HNo.out
          have hpl : P'.length = P.length + 1 := by have := congrArg List.length hp3; rw [Cm.endsF_length, List.length_append, Cm.endsF_length] at this; exact this
          have HP1 := Lib.hid hp1
          have HP2 := Lib.hid hp2
          have HP3 := Lib.hid hp3
          have HPL := Lib.hid hpl
          clear hp1 hp2 hp3 hpl
          go_roundw
          case rel =>
            refine ⟨P', k, k + 1, rfl, by go_num, by omega, hlt, by omega, HP1.out, HP2.out, fun j h1 h2 => by omega, ?_, by rw [HPL.out]; omega, HB1.out⟩
            rw [HPL.out, HP3.out, List.map_append]; exact HO1.out
          case measure => simp [intOf]; omega
        · have HStop := Lib.hid (show ¬ Cm.stop ⟨L, M, W, K⟩ (l.drop a) (k - a) from fun h => by
            rcases h with h | ⟨h, h2⟩ | h
            · exact hM (by rw [← HNk.out]; exact h)
            · exact hLn (by rw [← HNk.out]; exact h)
            · exact hks2 (HLN.out.1 h))
          clear hks2
          go_wp2
          go_quiet (fail)
          go_wp2
          go_roundw
          case rel =>
            refine ⟨P, a, k + 1, rfl, by go_num, by omega, has, by omega, HFL.out, HCut.out, fun j h1 h2 => ?_, own_below HO.out ⟨rfl, rfl, rfl, Nat.le_refl _, fun _ _ => rfl⟩, hPa, HBr.out.trans ⟨rfl, rfl, rfl, Nat.le_refl _, fun _ _ => rfl⟩⟩
            by_cases hj : j < k - a
            · exact HNo.out j h1 hj
            · obtain rfl : j = k - a := by omega
              exact HStop.out
          case measure => simp [intOf]; omega
    · have hae : a = s.size := by
        by_cases h : a < s.size
        · exact absurd (.inr (.inr (by rw [List.length_drop, HLS.out]))) (HNo.out (s.size - a) (by omega) (by omega))
        · omega
      have hP0 : P = Cm.cut ⟨L, M, W, K⟩ l := by
        have h := HCut.out
        rwa [List.drop_of_length_le (by rw [HLS.out]; omega), Cm.cut_nil, List.append_nil] at h
      obtain ⟨A, cap, rfl⟩ := own_slice HO.out
      obtain ⟨m, hm⟩ : ∃ m, P.length = m := ⟨_, rfl⟩
      have c1 : ¬ (k : Int) ≤ (s.size : Int) := by omega
      have HM := Lib.hid hm
      have hm2 : m ≤ s.size := by omega
      have HO2 := Lib.hid (hm ▸ HO.out)
      rw [hm]
      by_cases h256 : 256 < m
      · have hF : ([], 4) = r := by rw [← HR.out]; unfold Cm.cutR; rw [← hP0, if_neg (by rw [hm]; omega)]; rfl
        subst hF
        clear hae hP0 hm HO
        go_wp2
        go_ret2
        exact ⟨.slice none 0 0, rfl, World.ownsRow_nil _ _ _ _, by first | exact HBB.out.trans (HBr.out.mono (Nat.le_succ B)) | (rw [HS.out]; exact HBB.out.trans (HBr.out.mono (Nat.le_succ B)))⟩
      · have hF : (Cm.endsF 0 P, 0) = r := by rw [← HR.out]; unfold Cm.cutR; rw [← hP0, if_pos (by rw [hm]; omega)]
        subst hF
        clear hae hP0 hm HO
        go_wp2
        go_ret2
        refine ⟨.slice A m cap, rfl, ?_, by first | exact HBB.out.trans (HBr.out.mono (Nat.le_succ B)) | (rw [HS.out]; exact HBB.out.trans (HBr.out.mono (Nat.le_succ B)))⟩
        rw [Cm.endsF_length, HM.out]
        first | exact own_mono HO2.out (Nat.le_succ B) | (rw [HS.out]; exact own_mono HO2.out (Nat.le_succ B))

set_option maxRecDepth 100000 in
theorem rends_bad (s : ByteArray) (a b c d : Int) (w : World) (hc : Cm.okB a b c d = false) :
    Calls Try.prog 61 #[.string s, .agg #[.int .i64 a, .int .i64 b, .int .i64 c, .int .i64 d]] w (Cm.RetI w.heap.size w ([], 1)) := by
  have hchk : Cm.chk a b c d = 1 := by unfold Cm.chk; rw [hc]; rfl
  have CK := Lib.hid (fun V => hchk ▸ rcheck_any a b c d V)
  clear hchk hc
  go_enter Try.func61, Try.ntmps61
  go_wp2_with fail
  refine (CK.out _).mono ?_
  rintro e w2 ⟨rfl, hB2⟩
  go_wp2_with fail
  go_ret2
  exact ⟨.slice none 0 0, rfl, World.ownsRow_nil _ _ _ _, ((Below.refl _ _).alloc (Nat.le_refl _) _).trans (hB2.mono (by simp))⟩

/-- Ends of the reference -/
theorem rends_any (s : ByteArray) (a b c d : Int) (w : World) (hs : s.size ≤ 16384) :
    Calls Try.prog 61 #[.string s, .agg #[.int .i64 a, .int .i64 b, .int .i64 c, .int .i64 d]] w (Cm.RetI w.heap.size w (Cm.endsF 0 (Cm.cutV a b c d s.data.toList).1, (Cm.cutV a b c d s.data.toList).2)) := by
  unfold Cm.cutV
  cases hc : Cm.okB a b c d with
  | false => exact rends_bad s a b c d w hc
  | true =>
    obtain ⟨h1, h2⟩ := Cm.ok_of hc
    rw [h2]
    exact rends_ok s _ w h1 hs

end Go.Proofs.Ytebkgndcgcdogaa
