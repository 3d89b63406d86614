/-
  Contracts of the reference of refs: Drop.
-/
import Derived.Test.YtmdakplaaehmnaaIf
import Derived.Test.YtmdakplaaehmnaaCut3
namespace Go.Proofs.Ytmdakplaaehmnaa
open Go.RowKit
set_option maxHeartbeats 4000000

theorem Im.drop_cases (l : List Im.Rw) (d : Int) :
    (Im.chk l ≠ 0 ∧ Im.drop l d = ([], false, 2)) ∨ (Im.chk l = 0 ∧ Im.has l d = false ∧ Im.drop l d = ([], false, 6)) ∨
    (Im.chk l = 0 ∧ Im.has l d = true ∧ ∃ h : Im.find l d < l.length, l[Im.find l d].1 = d ∧
      ((0 < l[Im.find l d].2.1 - 1 ∧ Im.drop l d = (l.set (Im.find l d) (d, l[Im.find l d].2.1 - 1, l[Im.find l d].2.2), false, 0)) ∨
       (¬ 0 < l[Im.find l d].2.1 - 1 ∧ Im.drop l d = (l.eraseIdx (Im.find l d), true, 0)))) := by
  by_cases h1 : Im.chk l = 0
  · cases hh : Im.has l d with
    | false =>
      refine .inr (.inl ⟨h1, rfl, ?_⟩)
      unfold Im.has at hh
      unfold Im.drop
      rw [if_neg (by simp [h1])]
      cases hq : l[Im.find l d]? with
      | none => rfl
      | some r =>
        rw [hq] at hh
        simp only
        rw [if_neg (by simpa using hh)]
    | true =>
      obtain ⟨hi, e⟩ := Im.has_row hh
      refine .inr (.inr ⟨h1, rfl, hi, e, ?_⟩)
      unfold Im.drop
      rw [if_neg (by simp [h1]), List.getElem?_eq_getElem hi]
      simp only
      rw [if_pos e, e]
      by_cases h2 : 0 < l[Im.find l d].2.1 - 1
      · exact .inl ⟨h2, by rw [if_pos h2]⟩
      · exact .inr ⟨h2, by rw [if_neg h2]⟩
  · refine .inl ⟨h1, ?_⟩
    unfold Im.drop
    rw [if_pos h1]

theorem step_cut3 {P : Program} {ops : Array Oper} {o : Oper} {a : Act} {w : World} {K : Act → World → Prop} {Q : Exit → Act → World → Prop} {E : Prop}
    (hg : o.guard = none) (s x : Operand) (t : TypeId) (hop : o.op = Op.call { callee := Callee.builtin Builtin.append, args := #[s, x], argTypes := #[t, t] })
    (e : TypeId) (i : TypeInfo) (h1 : P.underlying t = some (.slice e)) (h2 : P.info? e = some i) (h4 : i.size = 3)
    (b n cap : Nat) (hs : a.eval s = .slice (some ⟨b, 0, none⟩) n cap)
    (ad : Addr) (m c : Nat) (news : List Value) (hx : a.eval x = .slice (some ad) m c) (hn : news.length = m * 3) (hc : ∀ j u, news[j]? = some u → w.cell? (ad.add j) = some u) (h1c : ∀ u ∈ news, u.oneCell' = true)
    (hroom : n + m ≤ cap) (hspare : ∀ j, j < news.length → (w.cell? ⟨b, n * 3 + j, none⟩).isSome = true ∧ w.frozen? ⟨b, n * 3 + j, none⟩ = false)
    (nn : Nat) (hnn : n + m = nn) (w6 : World) (hw6 : w.setCells b (n * 3) news = w6)
    (hK : K (a.put o.dst (.slice (some ⟨b, 0, none⟩) nn cap)) w6) :
    if Region.wanted o (yielded ops a.tmps) = true then Oper.wp P o a w K Q else E := by
  subst hnn hw6
  refine step_append_room hg s x t hop e i 3 h1 h2 h4 b 0 n cap hs ad m c news hx hn hc h1c hroom (by simpa using hspare) ?_
  simpa using hK

set_option maxRecDepth 100000 in
theorem rdropI_any (A : Option Addr) (n c : Nat) (l : List Im.Rw) (d : Int) (w : World) (hl : RowsIn w A n c l) (hA : A = none → c = 0) (hz : ∀ x ∈ l, x.2.2.length ≤ 9223372036854775807) (hn : n ≤ 17592186044416) :
    Calls Try.prog 25 #[.agg #[.slice A n c], .int .i64 d] w fun e w' => ∃ v, e = .returned (.tuple #[.agg #[v], .bool (Im.drop l d).2.1, .int .i64 (Im.drop l d).2.2]) ∧ RowsOwn w' w.heap.size v (Im.drop l d).1 ∧ Below w.heap.size w w' := by
  obtain ⟨i0, hi, hz0, hz1, hz2⟩ := info_parts info_row
  have hln := hl.1
  obtain ⟨B, hB⟩ : ∃ B, w.heap.size = B := ⟨_, rfl⟩
  obtain ⟨w1, hw1⟩ : ∃ V, (w.alloc (.cells #[.slice A n c] 25)).alloc (.cells #[.slice none 0 0] 25) = V := ⟨_, rfl⟩
  have hb1 : Below B w w1 := by rw [← hw1, ← hB]; exact ((Below.refl _ _).alloc (Nat.le_refl _) _).alloc (by simp) _
  have hs1 : w1.heap.size = B + 2 := by rw [← hw1]; simp [hB]
  have g3 : w1.cell? ⟨B, 0, none⟩ = some (.slice A n c) := by
    rw [← hw1, ← hB, World.cell?_alloc_lt _ _ _ (by simp), cell_new_at _ _ _ _ rfl]; rfl
  have x4 : w1.heap[B + 1]? = some (.cells #[.slice none 0 0] 25 (0, 0)) := by
    have e : (w.alloc (.cells #[.slice A n c] 25)).heap.size = B + 1 := by simp [hB]
    rw [← hw1, ← e]; exact heap_alloc_new _ _
  have CK := Lib.hid (fun V (hV : Below w.heap.size w V) => rchkI_any A n c l V (hl.below hV) hz hn)
  have CF := Lib.hid (fun V (hV : Below w.heap.size w V) => rfindI_any A n c l d V (hl.below hV) hn)
  have HL := Lib.hid hl
  have HLN := Lib.hid hln
  have X4 := Lib.hid x4
  have HW1 := Lib.hid hw1
  have HB1 := Lib.hid hb1
  have HBE := Lib.hid hB
  have HAN := Lib.hid hA
  clear hl hw1 hb1 hln x4 hz hA
  rw [hB] at CK CF ⊢
  go_enter Try.func25, Try.ntmps25
  go_wp2_with fail
  rw [HW1.out]
  clear hB
  rcases Im.drop_cases l d with ⟨hc, hF⟩ | ⟨hc, hhas, hF⟩ | ⟨hc, hhas, hfi, hfe, hR⟩
  · rw [Im.chk_two hc] at CK
    have HF := Lib.hid hF
    clear hc hF
    go_wp2_with (first | (go_at_call 19; with_reducible refine (CK.out _ HB1.out).mono ?_; rintro e w2 ⟨rfl, hb2⟩; have HB2 := Lib.hid (show Below B w w2 from HB1.out.trans (hb2.mono (by omega))); have g5 := (hb2.cell (p := ⟨B, 0, none⟩) (by show B < _; omega)).trans g3; have x5 := (hb2.block (B + 1) (by omega)).trans X4.out; obtain ⟨t5, f5⟩ := cell_frozen_one x5; have X5 := Lib.hid x5; clear x5; have hs2 := hb2.size; clear hb2) | (go_at_call 40; with_reducible refine (CF.out _ HB2.out).mono ?_; rintro e w3 ⟨rfl, hb3⟩; have HB3 := Lib.hid (show Below B w w3 from HB2.out.trans (hb3.mono (HBE.out ▸ HB2.out.size))); have g6 := (hb3.cell (p := ⟨B, 0, none⟩) (by show B < _; omega)).trans g5; have x6 := (hb3.block (B + 1) (by omega)).trans X5.out; obtain ⟨t6, f6⟩ := cell_frozen_one x6; have X6 := Lib.hid x6; clear x6; have hs3 := hb3.size; clear hb3) | (at_builtin; refine wpList_append_nil3 rfl _ 23 rfl B 37 i0 (.agg #[.int .i64 0, .int .i64 0, .string ByteArray.empty]) 3 32 Try.underlying23 hi hz0 hz1 hz2 rfl (by decide) A n c (Im.cells l) rfl (Im.idx_cells HL.out HAN.out).1 (by rw [Im.cells_length, HLN.out]) (Im.idx_cells (HL.out.below (by rw [HBE.out]; exact HB3.out)) HAN.out).2 (Im.cells_one l) (by unfold maxLen; omega) (by omega) (by have := HBE.out; have := HB3.out.size; omega) ?_; intro v4 w4 ho4 hg4; have hO4 : RowsOwn w4 B v4 l := (by unfold RowsOwn; rw [HLN.out]; exact ho4); obtain ⟨g4, c4, hv4, hgB, hgl, hgc⟩ := RowsOwn.form hO4 (Nat.lt_of_le_of_lt (Nat.zero_le _) HPL.out); rw [HLN.out] at hv4 hgc; subst hv4; obtain ⟨⟨y0, y1, y2⟩, fz⟩ := RowsOwn.rd hO4 HLN.out HPL.out; rw [HX.out] at y0 y1 y2; simp only at y0 y1 y2; rw [HTT.out] at y2; have fz1 := fz (p * 3 + 1); have hg4b : B ≤ w4.heap.size := (by omega); have x7 := (hg4.block (B + 1) (by omega) (by simp)).trans X6.out; obtain ⟨t7, f7⟩ := cell_frozen_one x7; have hgne : g4 ≠ B + 1 := RowsOwn.ne hO4 x7; have X7 := Lib.hid x7; have HO4 := Lib.hid hO4; have HB4 := Lib.hid (show Below B w w4 from HB3.out.grown hg4 (by omega) (fun _ h => by cases h)); clear ho4 hO4 hg4 x7 fz) | fail)
    have r5 := World.cell?_setCell_same _ _ (.slice none 0 0) t5
    exact bodyPost_ret (v := .tuple #[.agg #[.slice none 0 0], .bool false, .int .i64 2]) (by simp [results, Try.results25, go_sem, r5]) rfl ⟨.slice none 0 0, by rw [HF.out], by rw [HF.out]; exact RowsOwn.nil _ _, HB2.out.setCell (by show B ≤ B + 1; omega) _⟩
  · rw [hc] at CK
    rw [hhas] at CF
    have HF := Lib.hid hF
    clear hc hF hhas
    go_wp2_with (first | (go_at_call 19; with_reducible refine (CK.out _ HB1.out).mono ?_; rintro e w2 ⟨rfl, hb2⟩; have HB2 := Lib.hid (show Below B w w2 from HB1.out.trans (hb2.mono (by omega))); have g5 := (hb2.cell (p := ⟨B, 0, none⟩) (by show B < _; omega)).trans g3; have x5 := (hb2.block (B + 1) (by omega)).trans X4.out; obtain ⟨t5, f5⟩ := cell_frozen_one x5; have X5 := Lib.hid x5; clear x5; have hs2 := hb2.size; clear hb2) | (go_at_call 40; with_reducible refine (CF.out _ HB2.out).mono ?_; rintro e w3 ⟨rfl, hb3⟩; have HB3 := Lib.hid (show Below B w w3 from HB2.out.trans (hb3.mono (HBE.out ▸ HB2.out.size))); have g6 := (hb3.cell (p := ⟨B, 0, none⟩) (by show B < _; omega)).trans g5; have x6 := (hb3.block (B + 1) (by omega)).trans X5.out; obtain ⟨t6, f6⟩ := cell_frozen_one x6; have X6 := Lib.hid x6; clear x6; have hs3 := hb3.size; clear hb3) | (at_builtin; refine wpList_append_nil3 rfl _ 23 rfl B 37 i0 (.agg #[.int .i64 0, .int .i64 0, .string ByteArray.empty]) 3 32 Try.underlying23 hi hz0 hz1 hz2 rfl (by decide) A n c (Im.cells l) rfl (Im.idx_cells HL.out HAN.out).1 (by rw [Im.cells_length, HLN.out]) (Im.idx_cells (HL.out.below (by rw [HBE.out]; exact HB3.out)) HAN.out).2 (Im.cells_one l) (by unfold maxLen; omega) (by omega) (by have := HBE.out; have := HB3.out.size; omega) ?_; intro v4 w4 ho4 hg4; have hO4 : RowsOwn w4 B v4 l := (by unfold RowsOwn; rw [HLN.out]; exact ho4); obtain ⟨g4, c4, hv4, hgB, hgl, hgc⟩ := RowsOwn.form hO4 (Nat.lt_of_le_of_lt (Nat.zero_le _) HPL.out); rw [HLN.out] at hv4 hgc; subst hv4; obtain ⟨⟨y0, y1, y2⟩, fz⟩ := RowsOwn.rd hO4 HLN.out HPL.out; rw [HX.out] at y0 y1 y2; simp only at y0 y1 y2; rw [HTT.out] at y2; have fz1 := fz (p * 3 + 1); have hg4b : B ≤ w4.heap.size := (by omega); have x7 := (hg4.block (B + 1) (by omega) (by simp)).trans X6.out; obtain ⟨t7, f7⟩ := cell_frozen_one x7; have hgne : g4 ≠ B + 1 := RowsOwn.ne hO4 x7; have X7 := Lib.hid x7; have HO4 := Lib.hid hO4; have HB4 := Lib.hid (show Below B w w4 from HB3.out.grown hg4 (by omega) (fun _ h => by cases h)); clear ho4 hO4 hg4 x7 fz) | fail)
    have r6 := World.cell?_setCell_same _ _ (.slice none 0 0) t6
    exact bodyPost_ret (v := .tuple #[.agg #[.slice none 0 0], .bool false, .int .i64 6]) (by simp [results, Try.results25, go_sem, r6]) rfl ⟨.slice none 0 0, by rw [HF.out], by rw [HF.out]; exact RowsOwn.nil _ _, HB3.out.setCell (by show B ≤ B + 1; omega) _⟩
  · have hnl : n ≤ 1024 := by have := (Im.chk_zero hc).1; have := HLN.out; omega
    rw [hhas] at CF
    obtain ⟨hj0, hj1, hct0, hct1⟩ := (Im.chk_zero hc).2.1 _ (List.getElem_mem hfi)
    rw [hc] at CK
    obtain ⟨p, hp⟩ : ∃ p, Im.find l d = p := ⟨_, rfl⟩
    rw [hp] at CF
    have hpl : p < l.length := by rw [← hp]; exact hfi
    obtain ⟨x, hx⟩ : ∃ x, l[p] = x := ⟨_, rfl⟩
    have hxx : l[Im.find l d] = x := by simp only [hp]; exact hx
    rw [hxx, hp] at hR
    rw [hxx] at hfe hct0 hct1
    obtain ⟨a, ct, t⟩ := x
    simp only at hR hfe hct0 hct1
    subst hfe
    obtain ⟨T, hT⟩ : ∃ T, Cm.b t = T := ⟨_, rfl⟩
    have hpn : p < n := by rw [← HLN.out]; exact hpl
    have HPL := Lib.hid hpl
    have HX := Lib.hid hx
    have HTT := Lib.hid hT
    have j1 : (0 : Int) ≤ (p : Int) := by omega
    have j2 : (p : Int) < (n : Int) := by omega
    clear hhas hp hx hxx hT hj0 hj1 hfi
    rcases hR with ⟨hpos, hF⟩ | ⟨hpos, hF⟩
    · have q1 : decide ((0 : Int) < ct - 1) = true := by simpa using hpos
      have HF := Lib.hid hF
      clear hF hc
      go_wp2_with (first | (go_at_call 19; with_reducible refine (CK.out _ HB1.out).mono ?_; rintro e w2 ⟨rfl, hb2⟩; have HB2 := Lib.hid (show Below B w w2 from HB1.out.trans (hb2.mono (by omega))); have g5 := (hb2.cell (p := ⟨B, 0, none⟩) (by show B < _; omega)).trans g3; have x5 := (hb2.block (B + 1) (by omega)).trans X4.out; obtain ⟨t5, f5⟩ := cell_frozen_one x5; have X5 := Lib.hid x5; clear x5; have hs2 := hb2.size; clear hb2) | (go_at_call 40; with_reducible refine (CF.out _ HB2.out).mono ?_; rintro e w3 ⟨rfl, hb3⟩; have HB3 := Lib.hid (show Below B w w3 from HB2.out.trans (hb3.mono (HBE.out ▸ HB2.out.size))); have g6 := (hb3.cell (p := ⟨B, 0, none⟩) (by show B < _; omega)).trans g5; have x6 := (hb3.block (B + 1) (by omega)).trans X5.out; obtain ⟨t6, f6⟩ := cell_frozen_one x6; have X6 := Lib.hid x6; clear x6; have hs3 := hb3.size; clear hb3) | (at_builtin; refine wpList_append_nil3 rfl _ 23 rfl B 37 i0 (.agg #[.int .i64 0, .int .i64 0, .string ByteArray.empty]) 3 32 Try.underlying23 hi hz0 hz1 hz2 rfl (by decide) A n c (Im.cells l) rfl (Im.idx_cells HL.out HAN.out).1 (by rw [Im.cells_length, HLN.out]) (Im.idx_cells (HL.out.below (by rw [HBE.out]; exact HB3.out)) HAN.out).2 (Im.cells_one l) (by unfold maxLen; omega) (by omega) (by have := HBE.out; have := HB3.out.size; omega) ?_; intro v4 w4 ho4 hg4; have hO4 : RowsOwn w4 B v4 l := (by unfold RowsOwn; rw [HLN.out]; exact ho4); obtain ⟨g4, c4, hv4, hgB, hgl, hgc⟩ := RowsOwn.form hO4 (Nat.lt_of_le_of_lt (Nat.zero_le _) HPL.out); rw [HLN.out] at hv4 hgc; subst hv4; obtain ⟨⟨y0, y1, y2⟩, fz⟩ := RowsOwn.rd hO4 HLN.out HPL.out; rw [HX.out] at y0 y1 y2; simp only at y0 y1 y2; rw [HTT.out] at y2; have fz1 := fz (p * 3 + 1); have hg4b : B ≤ w4.heap.size := (by omega); have x7 := (hg4.block (B + 1) (by omega) (by simp)).trans X6.out; obtain ⟨t7, f7⟩ := cell_frozen_one x7; have hgne : g4 ≠ B + 1 := RowsOwn.ne hO4 x7; have X7 := Lib.hid x7; have HO4 := Lib.hid hO4; have HB4 := Lib.hid (show Below B w w4 from HB3.out.grown hg4 (by omega) (fun _ h => by cases h)); clear ho4 hO4 hg4 x7 fz) | fail)
      have t8 := (World.cell?_setCell_other w4 ⟨g4, p * 3 + 1, none⟩ ⟨B + 1, 0, none⟩ (.int .i64 (ct - 1)) (fun e => hgne (congrArg Addr.block e))).trans t7
      have r7 := World.cell?_setCell_same _ _ (.slice (some ⟨g4, 0, none⟩) n c4) t8
      have HO8 := Lib.hid (show RowsOwn ((w4.setCell ⟨g4, p * 3 + 1, none⟩ (.int .i64 (ct - 1))).setCell ⟨B + 1, 0, none⟩ (.slice (some ⟨g4, 0, none⟩) n c4)) B (.slice (some ⟨g4, 0, none⟩) n c4) (l.set p (a, ct - 1, t)) from by
        have h := (RowsOwn.setc HO4.out HLN.out HPL.out (ct - 1)).setFar (a := ⟨B + 1, 0, none⟩) hgne (.slice (some ⟨g4, 0, none⟩) n c4)
        rw [HX.out] at h
        exact h)
      exact bodyPost_ret (v := .tuple #[.agg #[.slice (some ⟨g4, 0, none⟩) n c4], .bool false, .int .i64 0]) (by simp [results, Try.results25, go_sem, r7]) rfl ⟨.slice (some ⟨g4, 0, none⟩) n c4, by rw [HF.out], by rw [HF.out]; exact HO8.out, (HB4.out.setCell (by show B ≤ g4; omega) _).setCell (by show B ≤ B + 1; omega) _⟩
    · obtain rfl : ct = 1 := by omega
      have HF := Lib.hid hF
      clear hF hc hpos
      go_wp2_with (first | (go_at_call 19; with_reducible refine (CK.out _ HB1.out).mono ?_; rintro e w2 ⟨rfl, hb2⟩; have HB2 := Lib.hid (show Below B w w2 from HB1.out.trans (hb2.mono (by omega))); have g5 := (hb2.cell (p := ⟨B, 0, none⟩) (by show B < _; omega)).trans g3; have x5 := (hb2.block (B + 1) (by omega)).trans X4.out; obtain ⟨t5, f5⟩ := cell_frozen_one x5; have X5 := Lib.hid x5; clear x5; have hs2 := hb2.size; clear hb2) | (go_at_call 40; with_reducible refine (CF.out _ HB2.out).mono ?_; rintro e w3 ⟨rfl, hb3⟩; have HB3 := Lib.hid (show Below B w w3 from HB2.out.trans (hb3.mono (HBE.out ▸ HB2.out.size))); have g6 := (hb3.cell (p := ⟨B, 0, none⟩) (by show B < _; omega)).trans g5; have x6 := (hb3.block (B + 1) (by omega)).trans X5.out; obtain ⟨t6, f6⟩ := cell_frozen_one x6; have X6 := Lib.hid x6; clear x6; have hs3 := hb3.size; clear hb3) | (at_builtin; refine wpList_append_nil3 rfl _ 23 rfl B 37 i0 (.agg #[.int .i64 0, .int .i64 0, .string ByteArray.empty]) 3 32 Try.underlying23 hi hz0 hz1 hz2 rfl (by decide) A n c (Im.cells l) rfl (Im.idx_cells HL.out HAN.out).1 (by rw [Im.cells_length, HLN.out]) (Im.idx_cells (HL.out.below (by rw [HBE.out]; exact HB3.out)) HAN.out).2 (Im.cells_one l) (by unfold maxLen; omega) (by omega) (by have := HBE.out; have := HB3.out.size; omega) ?_; intro v4 w4 ho4 hg4; have hO4 : RowsOwn w4 B v4 l := (by unfold RowsOwn; rw [HLN.out]; exact ho4); obtain ⟨g4, c4, hv4, hgB, hgl, hgc⟩ := RowsOwn.form hO4 (Nat.lt_of_le_of_lt (Nat.zero_le _) HPL.out); rw [HLN.out] at hv4 hgc; subst hv4; obtain ⟨⟨y0, y1, y2⟩, fz⟩ := RowsOwn.rd hO4 HLN.out HPL.out; rw [HX.out] at y0 y1 y2; simp only at y0 y1 y2; rw [HTT.out] at y2; have fz1 := fz (p * 3 + 1); have hg4b : B ≤ w4.heap.size := (by omega); have x7 := (hg4.block (B + 1) (by omega) (by simp)).trans X6.out; obtain ⟨t7, f7⟩ := cell_frozen_one x7; have hgne : g4 ≠ B + 1 := RowsOwn.ne hO4 x7; have X7 := Lib.hid x7; have HO4 := Lib.hid hO4; have HB4 := Lib.hid (show Below B w w4 from HB3.out.grown hg4 (by omega) (fun _ h => by cases h)); clear ho4 hO4 hg4 x7 fz) | fail)
      have ho5 := RowsOwn.setc HO4.out HLN.out HPL.out 0
      rw [HX.out] at ho5
      have t8 := (World.cell?_setCell_other w4 ⟨g4, p * 3 + 1, none⟩ ⟨B + 1, 0, none⟩ (.int .i64 0) (fun e => hgne (congrArg Addr.block e))).trans t7
      have f8 : (w4.setCell ⟨g4, p * 3 + 1, none⟩ (.int .i64 0)).frozen? ⟨B + 1, 0, none⟩ = false := (World.frozen?_setCell _ _ _ _).trans f7
      have hB5 : Below B w (w4.setCell ⟨g4, p * 3 + 1, none⟩ (.int .i64 0)) := HB4.out.setCell (by show B ≤ g4; omega) _
      have hel : (l.set p (a, 0, t)).eraseIdx p = l.eraseIdx p := by simp [List.eraseIdx_eq_take_drop_succ, List.take_set_of_le, List.drop_set_of_lt]
      generalize w4.setCell ⟨g4, p * 3 + 1, none⟩ (.int .i64 0) = w5 at ho5 t8 f8 hB5 ⊢
      have hl5 : (l.set p (a, 0, t)).length = n := by rw [List.length_set, HLN.out]
      obtain ⟨l5, hl5e⟩ : ∃ l5, l.set p (a, 0, t) = l5 := ⟨_, rfl⟩
      rw [hl5e] at ho5 hl5 hel
      have hcut := RowsOwn.cut (w := w5.drew) ho5 hl5 hpn
      rw [hel] at hcut
      obtain ⟨w6, hw6⟩ : ∃ V, w5.drew.setCells g4 (p * 3) (Im.cells (l5.drop (p + 1))) = V := ⟨_, rfl⟩
      have hdl : (Im.cells (l5.drop (p + 1))).length = (n - (p + 1)) * 3 := by rw [Im.cells_length, List.length_drop, hl5]
      have t9 : w6.cell? ⟨B + 1, 0, none⟩ = some (.slice none 0 0) := by rw [← hw6, cell_setCells_far g4 (fun e => hgne e.symm)]; exact t8
      have f9 : w6.frozen? ⟨B + 1, 0, none⟩ = false := by rw [← hw6, frozen_setCells]; exact f8
      have hB6 : Below B w w6 := by rw [← hw6]; exact Below_setCells g4 _ _ _ hB5.drew hgB
      rw [hw6] at hcut
      have HW6 := Lib.hid hw6
      have HCUT := Lib.hid hcut
      have HB6 := Lib.hid hB6
      have HDL := Lib.hid hdl
      have HSP := Lib.hid (show ∀ j, j < (Im.cells (l5.drop (p + 1))).length → (w5.drew.cell? ⟨g4, p * 3 + j, none⟩).isSome = true ∧ w5.drew.frozen? ⟨g4, p * 3 + j, none⟩ = false from fun j hj => by
        have ho5' : w5.drew.ownsRow B 37 3 (.slice (some ⟨g4, 0, none⟩) n c4) n (Im.cells l5) := by have h := ho5; unfold RowsOwn at h; rw [hl5] at h; exact h
        obtain ⟨u, hu⟩ := World.ownsRow.cellSome3 ho5' (p * 3 + j) (by rw [hdl] at hj; omega)
        exact ⟨by rw [hu]; rfl, World.ownsRow.frozenAt ho5' _⟩)
      have HCC := Lib.hid (show ∀ j u, (Im.cells (l5.drop (p + 1)))[j]? = some u → w5.drew.cell? ((⟨g4, (p + 1) * 3, none⟩ : Addr).add j) = some u from fun j u hu => by
        have ho5' : w5.drew.ownsRow B 37 3 (.slice (some ⟨g4, 0, none⟩) n c4) n (Im.cells l5) := by have h := ho5; unfold RowsOwn at h; rw [hl5] at h; exact h
        have hj : j < (Im.cells (l5.drop (p + 1))).length := (List.getElem?_eq_some_iff.1 hu).1
        have e1 : (⟨g4, (p + 1) * 3, none⟩ : Addr).add j = ⟨g4, (p + 1) * 3 + j, none⟩ := by unfold Addr.add; split <;> simp_all
        rw [e1, World.ownsRow.cellAt ho5' _ (by rw [hdl] at hj; omega)]
        rw [Im.cells_drop, List.getElem?_drop] at hu
        exact hu)
      have HB5 := Lib.hid hB5
      have ew : IntKind.i64.wrap ((p : Int) + 1) = (p : Int) + 1 := by rw [IntKind.wrap_i64]; omega
      have ew3 : ((p : Int) + 1).toNat = p + 1 := by omega
      have k1 : (0 : Int) ≤ (p : Int) + 1 := by omega
      have k2 : (p : Int) + 1 ≤ (n : Int) := by omega
      have k4 : (p : Int) ≤ (c4 : Int) := by omega
      have k5 : ¬ c4 = p := by omega
      have hnn : p + (n - (p + 1)) = n - 1 := by omega
      clear ho5 hw6 hcut hB6 hdl t8 f8 hB5 hel hl5 hl5e
      by_cases hcp : c4 = p + 1
      · subst hcp
        obtain rfl : n = p + 1 := by omega
        have k6 : (p : Int) ≤ (p : Int) + 1 := by omega
        go_region_law (refine step_cut3 rfl (.tmp 44) (.tmp 48) 23 rfl 37 i0 Try.underlying23 hi hz1 g4 p (p + 1) (by simp [Act.eval, Act.put]) ⟨g4, 0, none⟩ 0 0 (Im.cells (l5.drop (p + 1))) (by simp [Act.eval, Act.put]) (by rw [HDL.out]; omega) (fun j u hu => absurd (List.getElem?_eq_some_iff.1 hu).1 (by rw [HDL.out]; omega)) (Im.cells_one _) (by omega) HSP.out p (by omega) w6 HW6.out ?_)
        go_wp2_with fail
        have r7 := World.cell?_setCell_same _ _ (.slice (some ⟨g4, 0, none⟩) p (p + 1)) t9
        exact bodyPost_ret (v := .tuple #[.agg #[.slice (some ⟨g4, 0, none⟩) p (p + 1)], .bool true, .int .i64 0]) (by simp [results, Try.results25, go_sem, r7]) rfl ⟨.slice (some ⟨g4, 0, none⟩) p (p + 1), by rw [HF.out], by rw [HF.out]; exact HCUT.out.setFar (a := ⟨B + 1, 0, none⟩) hgne _, HB6.out.setCell (by show B ≤ B + 1; omega) _⟩
      · go_region_law (refine step_cut3 rfl (.tmp 44) (.tmp 48) 23 rfl 37 i0 Try.underlying23 hi hz1 g4 p c4 (by simp [Act.eval, Act.put]) ⟨g4, (p + 1) * 3, none⟩ (n - (p + 1)) (c4 - (p + 1)) (Im.cells (l5.drop (p + 1))) (by simp [Act.eval, Act.put]) HDL.out HCC.out (Im.cells_one _) (by omega) HSP.out (n - 1) hnn w6 HW6.out ?_)
        go_wp2_with fail
        have r7 := World.cell?_setCell_same _ _ (.slice (some ⟨g4, 0, none⟩) (n - 1) c4) t9
        exact bodyPost_ret (v := .tuple #[.agg #[.slice (some ⟨g4, 0, none⟩) (n - 1) c4], .bool true, .int .i64 0]) (by simp [results, Try.results25, go_sem, r7]) rfl ⟨.slice (some ⟨g4, 0, none⟩) (n - 1) c4, by rw [HF.out], by rw [HF.out]; exact HCUT.out.setFar (a := ⟨B + 1, 0, none⟩) hgne _, HB6.out.setCell (by show B ≤ B + 1; omega) _⟩

end Go.Proofs.Ytmdakplaaehmnaa
