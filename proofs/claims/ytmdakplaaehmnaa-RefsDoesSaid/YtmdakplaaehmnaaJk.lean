/-
  Contract of refs: Drop.
-/
import Derived.Test.YtmdakplaaehmnaaJg
import Derived.Test.YtmdakplaaehmnaaJj
namespace Go.Proofs.Ytmdakplaaehmnaa
open Go.RowKit
set_option maxHeartbeats 4000000

set_option maxRecDepth 100000 in
theorem drop_any (A : Option Addr) (n c : Nat) (l : List Im.Rw) (d : Int) (w : World) (hl : RowsIn w A n c l) (hz : ∀ x ∈ l, x.2.2.length ≤ 140737488355328) (hn : n ≤ 17592186044416) :
    Calls Try.prog 24 #[.agg #[.slice A n c], .int .i64 d] w fun e w' => ∃ v, e = .returned (.tuple #[.agg #[v], .bool (Im.drop l d).2.1, .int .i64 (Im.drop l d).2.2]) ∧ RowsOwn w' w.heap.size v (Im.drop l d).1 ∧ Below w.heap.size w w' := by
  have hln := hl.1
  obtain ⟨B, hB⟩ : ∃ B, w.heap.size = B := ⟨_, rfl⟩
  obtain ⟨w1, hw1⟩ : ∃ V, (w.alloc (.cells #[.slice A n c] 25)).alloc (.cells #[.slice none 0 0] 25) = V := ⟨_, rfl⟩
  have hb1 : Below B w w1 := by rw [← hw1, ← hB]; exact ((Below.refl _ _).alloc (Nat.le_refl _) _).alloc (by simp) _
  have hs1 : w1.heap.size = B + 2 := by rw [← hw1]; simp [hB]
  have g3 : w1.cell? ⟨B, 0, none⟩ = some (.slice A n c) := by
    rw [← hw1, ← hB, World.cell?_alloc_lt _ _ _ (by simp), cell_new_at _ _ _ _ rfl]; rfl
  have x4 : w1.heap[B + 1]? = some (.cells #[.slice none 0 0] 25 (0, 0)) := by
    have e : (w.alloc (.cells #[.slice A n c] 25)).heap.size = B + 1 := by simp [hB]
    rw [← hw1, ← e]; exact heap_alloc_new _ _
  have CR := Lib.hid (fun V (hV : Below w.heap.size w V) => row_any A n c l d V (hl.below hV) hz hn)
  have CP := Lib.hid (fun (h : n ≤ 1024) V (hV : Below w.heap.size w V) => copied_any A n c l V (hl.below hV) hz (by omega))
  have HL := Lib.hid hl
  have HLN := Lib.hid hln
  have X4 := Lib.hid x4
  have HW1 := Lib.hid hw1
  have HB1 := Lib.hid hb1
  clear hl hw1 hb1 hln x4 hz
  rw [hB] at CR CP ⊢
  go_enter Try.func24, Try.ntmps24
  go_wp2_with fail
  rw [HW1.out]
  clear hB
  rcases Im.drop_cases l d with ⟨hc, hF⟩ | ⟨hc, hhas, hF⟩ | ⟨hc, hhas, hfi, hfe, hR⟩
  · rw [if_neg hc] at CR
    have HF := Lib.hid hF
    clear hc hF
    go_wp2_with (first | (go_at_call 41; with_reducible refine (CR.out _ HB1.out).mono ?_; rintro e w2 ⟨rfl, hb2⟩; have HB2 := Lib.hid (show Below B w w2 from HB1.out.trans (hb2.mono (by omega))); have x5 := (hb2.block (B + 1) (by omega)).trans X4.out; obtain ⟨t5, f5⟩ := cell_frozen_one x5; clear x5 hb2) | fail)
    have r5 := World.cell?_setCell_same _ _ (.slice none 0 0) t5
    exact bodyPost_ret (v := .tuple #[.agg #[.slice none 0 0], .bool false, .int .i64 2]) (by simp [results, Try.results24, go_sem, r5]) rfl ⟨.slice none 0 0, by rw [HF.out], by rw [HF.out]; exact RowsOwn.nil _ _, HB2.out.setCell (by show B ≤ B + 1; omega) _⟩
  · rw [hc, hhas] at CR
    simp only [if_true, Bool.false_eq_true, if_false] at CR
    have HF := Lib.hid hF
    clear hc hF hhas
    go_wp2_with (first | (go_at_call 41; with_reducible refine (CR.out _ HB1.out).mono ?_; rintro e w2 ⟨rfl, hb2⟩; have HB2 := Lib.hid (show Below B w w2 from HB1.out.trans (hb2.mono (by omega))); have x5 := (hb2.block (B + 1) (by omega)).trans X4.out; obtain ⟨t5, f5⟩ := cell_frozen_one x5; clear x5 hb2) | fail)
    have r5 := World.cell?_setCell_same _ _ (.slice none 0 0) t5
    exact bodyPost_ret (v := .tuple #[.agg #[.slice none 0 0], .bool false, .int .i64 6]) (by simp [results, Try.results24, go_sem, r5]) rfl ⟨.slice none 0 0, by rw [HF.out], by rw [HF.out]; exact RowsOwn.nil _ _, HB2.out.setCell (by show B ≤ B + 1; omega) _⟩
  · have hnl : n ≤ 1024 := by have := (Im.chk_zero hc).1; have := HLN.out; omega
    have CP := Lib.hid (CP.out hnl)
    rw [hc, hhas] at CR
    simp only [if_true] at CR
    obtain ⟨hj0, hj1, hct0, hct1⟩ := (Im.chk_zero hc).2.1 _ (List.getElem_mem hfi)
    obtain ⟨p, hp⟩ : ∃ p, Im.find l d = p := ⟨_, rfl⟩
    rw [hp] at CR
    have hpl : p < l.length := by rw [← hp]; exact hfi
    obtain ⟨x, hx⟩ : ∃ x, l[p] = x := ⟨_, rfl⟩
    have hxx : l[Im.find l d] = x := by simp only [hp]; exact hx
    rw [hxx, hp] at hR
    rw [hxx] at hfe hct0 hct1
    obtain ⟨a, ct, t⟩ := x
    simp only at hR hfe hct0 hct1
    subst hfe
    have hpn : p < n := by rw [← HLN.out]; exact hpl
    have HPL := Lib.hid hpl
    have HX := Lib.hid hx
    have j1 : (0 : Int) ≤ (p : Int) := by omega
    have j2 : (p : Int) < (n : Int) := by omega
    have q3 : IntKind.i64.wrap (ct - 1) = ct - 1 := by rw [IntKind.wrap_i64]; omega
    clear hhas hp hx hxx hj0 hj1 hfi
    rcases hR with ⟨hpos, hF⟩ | ⟨hpos, hF⟩
    · have q1 : decide ((0 : Int) < ct - 1) = true := by simpa using hpos
      have HF := Lib.hid hF
      clear hF hc
      go_wp2_with (first | (go_at_call 41; with_reducible refine (CR.out _ HB1.out).mono ?_; rintro e w2 ⟨rfl, hb2⟩; have HB2 := Lib.hid (show Below B w w2 from HB1.out.trans (hb2.mono (by omega))); have g5 := (hb2.cell (p := ⟨B, 0, none⟩) (by show B < _; omega)).trans g3; have x5 := (hb2.block (B + 1) (by omega)).trans X4.out; have X5 := Lib.hid x5; have hs2 := hb2.size; clear x5 hb2) | (go_at_call 39; with_reducible refine (CP.out _ HB2.out).mono ?_; rintro e w4 ⟨v4, rfl, ho4, hb4⟩; obtain ⟨g4, c4, hv4, hgB, hgl, hgc⟩ := RowsOwn.form ho4 (Nat.lt_of_le_of_lt (Nat.zero_le _) HPL.out); rw [HLN.out] at hv4 hgc; subst hv4; obtain ⟨⟨u0, u1, u2⟩, fz⟩ := RowsOwn.rd ho4 HLN.out HPL.out; rw [HX.out] at u0 u1 u2; simp only at u0 u1 u2; have fz1 := fz (p * 3 + 1); have x7 := (hb4.block (B + 1) (by omega)).trans X5.out; obtain ⟨t7, f7⟩ := cell_frozen_one x7; have HO4 := Lib.hid ho4; have HB4 := Lib.hid (show Below B w w4 from HB2.out.trans (hb4.mono (by omega))); clear ho4 hb4 x7 fz u0 u2) | fail)
      have hgne : g4 ≠ B + 1 := by omega
      have t8 := (World.cell?_setCell_other w4 ⟨g4, p * 3 + 1, none⟩ ⟨B + 1, 0, none⟩ (.int .i64 (ct - 1)) (fun e => hgne (congrArg Addr.block e))).trans t7
      have r7 := World.cell?_setCell_same _ _ (.slice (some ⟨g4, 0, none⟩) n c4) t8
      have HO8 := Lib.hid (show RowsOwn ((w4.setCell ⟨g4, p * 3 + 1, none⟩ (.int .i64 (ct - 1))).setCell ⟨B + 1, 0, none⟩ (.slice (some ⟨g4, 0, none⟩) n c4)) B (.slice (some ⟨g4, 0, none⟩) n c4) (l.set p (a, ct - 1, t)) from by
        have h := ((RowsOwn.setc HO4.out HLN.out HPL.out (ct - 1)).setFar (a := ⟨B + 1, 0, none⟩) hgne (.slice (some ⟨g4, 0, none⟩) n c4)).mono (show B ≤ w2.heap.size by omega)
        rw [HX.out] at h
        exact h)
      exact bodyPost_ret (v := .tuple #[.agg #[.slice (some ⟨g4, 0, none⟩) n c4], .bool false, .int .i64 0]) (by simp [results, Try.results24, go_sem, r7]) rfl ⟨.slice (some ⟨g4, 0, none⟩) n c4, by rw [HF.out], by rw [HF.out]; exact HO8.out, (HB4.out.setCell (by show B ≤ g4; omega) _).setCell (by show B ≤ B + 1; omega) _⟩
    · obtain rfl : ct = 1 := by omega
      have HF := Lib.hid hF
      have hel : (l.set p (a, 0, t)).eraseIdx p = l.eraseIdx p := by simp [List.eraseIdx_eq_take_drop_succ, List.take_set_of_le, List.drop_set_of_lt]
      have HEL := Lib.hid hel
      clear hF hc hpos hel
      go_wp2_with (first | (go_at_call 41; with_reducible refine (CR.out _ HB1.out).mono ?_; rintro e w2 ⟨rfl, hb2⟩; have HB2 := Lib.hid (show Below B w w2 from HB1.out.trans (hb2.mono (by omega))); have g5 := (hb2.cell (p := ⟨B, 0, none⟩) (by show B < _; omega)).trans g3; have x5 := (hb2.block (B + 1) (by omega)).trans X4.out; have X5 := Lib.hid x5; have hs2 := hb2.size; clear x5 hb2) | (go_at_call 39; with_reducible refine (CP.out _ HB2.out).mono ?_; rintro e w4 ⟨v4, rfl, ho4, hb4⟩; obtain ⟨g4, c4, hv4, hgB, hgl, hgc⟩ := RowsOwn.form ho4 (Nat.lt_of_le_of_lt (Nat.zero_le _) HPL.out); rw [HLN.out] at hv4 hgc; subst hv4; obtain ⟨⟨u0, u1, u2⟩, fz⟩ := RowsOwn.rd ho4 HLN.out HPL.out; rw [HX.out] at u0 u1 u2; simp only at u0 u1 u2; have fz1 := fz (p * 3 + 1); have x7 := (hb4.block (B + 1) (by omega)).trans X5.out; have ho5 := (by have h := RowsOwn.setc ho4 HLN.out HPL.out 0; rw [HX.out] at h; exact h : RowsOwn (w4.setCell ⟨g4, p * 3 + 1, none⟩ (.int .i64 0)) w2.heap.size (.slice (some ⟨g4, 0, none⟩) n c4) (l.set p (a, 0, t))); have HO5 := Lib.hid ho5; have x8 := ((Below.refl g4 w4).setCell (p := ⟨g4, p * 3 + 1, none⟩) (Nat.le_refl _) (.int .i64 0)).block (B + 1) (by omega); have X8 := Lib.hid (x8.trans x7); have HB5 := Lib.hid ((show Below B w w4 from HB2.out.trans (hb4.mono (by omega))).setCell (p := ⟨g4, p * 3 + 1, none⟩) (by show B ≤ g4; omega) (.int .i64 0)); have CD := Lib.hid (delete_any w2.heap.size g4 n c4 p (l.set p (a, 0, t)) _ ho5 (by rw [List.length_set, HLN.out]) (by omega) hpn); clear ho4 hb4 x7 x8 ho5 fz u0 u2) | (go_at_call 42; with_reducible refine CD.out.mono ?_; rintro e w6 ⟨v6, rfl, ho6, hb6⟩; rw [HEL.out] at ho6; obtain ⟨A6, c6, hv6, hr6⟩ := own_rows ho6; clear hr6; obtain ⟨k6, hk6⟩ : ∃ k6, (l.eraseIdx p).length = k6 := ⟨_, rfl⟩; rw [hk6] at hv6; clear hk6; subst hv6; have x9 := (hb6.block (B + 1) (by omega)).trans X8.out; obtain ⟨t9, f9⟩ := cell_frozen_one x9; have X9 := Lib.hid x9; have HO6 := Lib.hid ho6; have HB6 := Lib.hid (HB5.out.trans (hb6.mono (by omega))); clear ho6 hb6 x9) | fail)
      have r7 := World.cell?_setCell_same _ _ (.slice A6 k6 c6) t9
      have hfar : RowsOwn (w6.setCell ⟨B + 1, 0, none⟩ (.slice A6 k6 c6)) w2.heap.size (.slice A6 k6 c6) (l.eraseIdx p) := HO6.out.setCell (by show B + 1 < _; omega) _
      exact bodyPost_ret (v := .tuple #[.agg #[.slice A6 k6 c6], .bool true, .int .i64 0]) (by simp [results, Try.results24, go_sem, r7]) rfl ⟨.slice A6 k6 c6, by rw [HF.out], by rw [HF.out]; exact hfar.mono (by omega), HB6.out.setCell (by show B ≤ B + 1; omega) _⟩

end Go.Proofs.Ytmdakplaaehmnaa
