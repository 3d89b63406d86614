/-
  Contract of refs: Add.
-/
import Derived.Test.YtmdakplaaehmnaaJj
import Derived.Deep.RegionHeld3
namespace Go.Proofs.Ytmdakplaaehmnaa
open Go.RowKit
set_option maxHeartbeats 4000000

set_option maxRecDepth 100000 in
theorem add_any (A : Option Addr) (n c : Nat) (l : List Im.Rw) (S : ByteArray) (w : World) (hl : RowsIn w A n c l) (hz : ∀ x ∈ l, x.2.2.length ≤ 140737488355328) (hn : n ≤ 17592186044416) (hS : S.size ≤ 140737488355328) :
    Calls Try.prog 22 #[.agg #[.slice A n c], .string S] w fun e w' => ∃ v, e = .returned (.tuple #[.agg #[v], .bool (Im.add l S.data.toList).2.1, .int .i64 (Im.add l S.data.toList).2.2]) ∧ RowsOwn w' w.heap.size v (Im.add l S.data.toList).1 ∧ Below w.heap.size w w' := by
  have hln := hl.1
  obtain ⟨B, hB⟩ : ∃ B, w.heap.size = B := ⟨_, rfl⟩
  obtain ⟨w1, hw1⟩ : ∃ V, (w.alloc (.cells #[.slice A n c] 25)).alloc (.cells #[.slice none 0 0] 25) = V := ⟨_, rfl⟩
  have hb1 : Below B w w1 := by rw [← hw1, ← hB]; exact ((Below.refl _ _).alloc (Nat.le_refl _) _).alloc (by simp) _
  have hs1 : w1.heap.size = B + 2 := by rw [← hw1]; simp [hB]
  have g3 : w1.cell? ⟨B, 0, none⟩ = some (.slice A n c) := by
    rw [← hw1, ← hB, World.cell?_alloc_lt _ _ _ (by simp), cell_new_at _ _ _ _ rfl]; rfl
  have x4 : w1.heap[B + 1]? = some (.cells #[.slice none 0 0] 25 (0, 0)) := by
    have e : (w.alloc (.cells #[.slice A n c] 25)).heap.size = B + 1 := by simp [hB]
    rw [← hw1, ← e]; exact heap_alloc_new _ _
  obtain ⟨s, hs⟩ : ∃ s, S.data.toList = s := ⟨_, rfl⟩
  have hss : S.size = s.length := by rw [← hs]; exact Array.length_toList.symm
  obtain ⟨D, hD⟩ : ∃ D, Dm.sum s = D := ⟨_, rfl⟩
  have hsum := fun V => sum_any S V (by unfold maxLen; omega)
  rw [hs, hD] at hsum
  have hag := fun (p : Nat) (a ct : Int) (t : List UInt8) (hp : p < l.length) (hx : l[p] = (a, ct, t)) (R : List Im.Rw) (code : Int) (hc : Im.chk l = 0) (V : World) (hV : Below w.heap.size w V) => again_any A n c p l S V (hl.below hV) hc hp a ct t hx R code
  rw [hs] at hag ⊢
  have CS := Lib.hid hsum
  have CA := Lib.hid hag
  have CK := Lib.hid (fun V (hV : Below w.heap.size w V) => check_any A n c l V (hl.below hV) hz hn)
  have CF := Lib.hid (fun (hA : Im.Asc l) V (hV : Below w.heap.size w V) => find_any A n c l D V (hl.below hV) hA hn)
  have CP := Lib.hid (fun (h : n ≤ 1024) V (hV : Below w.heap.size w V) => copied_any A n c l V (hl.below hV) hz (by omega))
  have CC := Lib.hid (fun V => clone_any S V (by omega))
  have HLN := Lib.hid hln
  have X4 := Lib.hid x4
  have HW1 := Lib.hid hw1
  have HB1 := Lib.hid hb1
  have HSE := Lib.hid hs
  have HSS := Lib.hid hss
  have HDE := Lib.hid hD
  clear hl hw1 hb1 hln x4 hz hs hss hD hsum hag
  rw [hB] at CK CF CP CA ⊢
  go_enter Try.func22, Try.ntmps22
  go_wp2_with fail
  rw [HW1.out]
  clear hB
  rcases Im.add_casesD l s HDE.out with ⟨hc, hF⟩ | ⟨hc, hlong, hF⟩ | ⟨hc, hshort, hfi, hfe, hR⟩ | ⟨hc, hshort, hno, hR⟩
  · rw [Im.chk_two hc] at CK
    have HF := Lib.hid hF
    clear hc hF
    go_wp2_with (first | (go_at_call 18; with_reducible refine (CK.out _ HB1.out).mono ?_; rintro e w2 ⟨rfl, hb2⟩; have HB2 := Lib.hid (show Below B w w2 from HB1.out.trans (hb2.mono (by omega))); have x5 := (hb2.block (B + 1) (by omega)).trans X4.out; obtain ⟨t5, f5⟩ := cell_frozen_one x5; clear x5 hb2) | fail)
    have r5 := World.cell?_setCell_same _ _ (.slice none 0 0) t5
    exact bodyPost_ret (v := .tuple #[.agg #[.slice none 0 0], .bool false, .int .i64 2]) (by simp [results, Try.results22, go_sem, r5]) rfl ⟨.slice none 0 0, by rw [HF.out], by rw [HF.out]; exact RowsOwn.nil _ _, HB2.out.setCell (by show B ≤ B + 1; omega) _⟩
  · rw [hc] at CK
    have HF := Lib.hid hF
    have e1 : decide ((16384 : Int) < (S.size : Int)) = true := by have := HSS.out; simp; omega
    clear hc hF hlong
    go_wp2_with (first | (go_at_call 18; with_reducible refine (CK.out _ HB1.out).mono ?_; rintro e w2 ⟨rfl, hb2⟩; have HB2 := Lib.hid (show Below B w w2 from HB1.out.trans (hb2.mono (by omega))); have x5 := (hb2.block (B + 1) (by omega)).trans X4.out; obtain ⟨t5, f5⟩ := cell_frozen_one x5; clear x5 hb2) | fail)
    have r5 := World.cell?_setCell_same _ _ (.slice none 0 0) t5
    exact bodyPost_ret (v := .tuple #[.agg #[.slice none 0 0], .bool false, .int .i64 4]) (by simp [results, Try.results22, go_sem, r5]) rfl ⟨.slice none 0 0, by rw [HF.out], by rw [HF.out]; exact RowsOwn.nil _ _, HB2.out.setCell (by show B ≤ B + 1; omega) _⟩
  · have e1 : decide ((16384 : Int) < (S.size : Int)) = false := by have := HSS.out; simp; omega
    have CF := Lib.hid (CF.out (Im.chk_zero hc).2.2)
    have hhas : Im.has l D = true := by unfold Im.has; rw [List.getElem?_eq_getElem hfi]; simpa using hfe
    rw [hhas] at CF
    obtain ⟨p, hp⟩ : ∃ p, Im.find l D = p := ⟨_, rfl⟩
    rw [hp] at CF
    have hpl : p < l.length := by rw [← hp]; exact hfi
    obtain ⟨x, hx⟩ : ∃ x, l[p] = x := ⟨_, rfl⟩
    have hxx : l[Im.find l D] = x := by simp only [hp]; exact hx
    rw [hxx, hp] at hR
    rw [hxx] at hfe
    obtain ⟨a, ct, t⟩ := x
    simp only at hR hfe
    subst hfe
    obtain ⟨R, code, hRc, hF⟩ : ∃ R code, ((t ≠ s ∧ R = [] ∧ code = 8) ∨ (t = s ∧ ct = 2147483646 ∧ R = [] ∧ code = 4) ∨ (t = s ∧ ct ≠ 2147483646 ∧ R = l.set p (a, ct + 1, t) ∧ code = 0)) ∧ Im.add l s = (R, false, code) := by
      rcases hR with ⟨hne, hF⟩ | ⟨he, hct, hF⟩ | ⟨he, hct, hF⟩
      · exact ⟨_, _, .inl ⟨hne, rfl, rfl⟩, hF⟩
      · exact ⟨_, _, .inr (.inl ⟨he, hct, rfl, rfl⟩), hF⟩
      · exact ⟨_, _, .inr (.inr ⟨he, hct, rfl, rfl⟩), by rw [hF, he]⟩
    have CA := Lib.hid (fun V hV => CA.out p a ct t hpl hx R code hc V hV hRc)
    rw [hc] at CK
    have HF := Lib.hid hF
    clear hhas hp hx hxx hfi hR hRc hF hc
    go_wp2_with (first | (go_at_call 18; with_reducible refine (CK.out _ HB1.out).mono ?_; rintro e w2 ⟨rfl, hb2⟩; have HB2 := Lib.hid (show Below B w w2 from HB1.out.trans (hb2.mono (by omega))); have g5 := (hb2.cell (p := ⟨B, 0, none⟩) (by show B < _; omega)).trans g3; have x5 := (hb2.block (B + 1) (by omega)).trans X4.out; have X5 := Lib.hid x5; have hs2 := hb2.size; clear x5 hb2) | (go_at_call 13; with_reducible refine (CS.out _).mono ?_; rintro e w3 ⟨rfl, rfl⟩) | (go_at_call 35; with_reducible refine (CF.out _ HB2.out).mono ?_; rintro e w3 ⟨rfl, hb3⟩; have HB3 := Lib.hid (show Below B w w3 from HB2.out.trans (hb3.mono (by omega))); have g6 := (hb3.cell (p := ⟨B, 0, none⟩) (by show B < _; omega)).trans g5; have x6 := (hb3.block (B + 1) (by omega)).trans X5.out; have X6 := Lib.hid x6; have hs3 := hb3.size; clear x6 hb3) | (go_at_call 36; with_reducible refine (CA.out _ HB3.out).mono ?_; rintro e w4 ⟨v4, rfl, ho4, hb4⟩; obtain ⟨A4, c4, hv4, hr4⟩ := own_rows ho4; clear hr4; obtain ⟨k4, hk4⟩ : ∃ k4, R.length = k4 := ⟨_, rfl⟩; rw [hk4] at hv4; clear hk4; subst hv4; have x7 := (hb4.block (B + 1) (by omega)).trans X6.out; have hs4 := hb4.size; have x8 := (Below.heap_alloc w4 (.cells #[.slice A4 k4 c4] 25) (B + 1) (by omega)).trans x7; obtain ⟨t7, f7⟩ := cell_frozen_one x8; clear x8; have HO4 := Lib.hid ho4; have HB4 := Lib.hid (show Below B w w4 from HB3.out.trans (hb4.mono (by omega))); clear ho4 hb4 x7) | fail)
    have r7 := World.cell?_setCell_same _ _ (.slice A4 k4 c4) t7
    exact bodyPost_ret (v := .tuple #[.agg #[.slice A4 k4 c4], .bool false, .int .i64 code]) (by simp [results, Try.results22, go_sem, r7]) rfl ⟨.slice A4 k4 c4, by rw [HF.out], by rw [HF.out]; exact ((HO4.out.alloc _).setCell (by show B + 1 < _; omega) _).mono (by omega), (HB4.out.alloc (by omega) _).setCell (by show B ≤ B + 1; omega) _⟩
  · have e1 : decide ((16384 : Int) < (S.size : Int)) = false := by have := HSS.out; simp; omega
    have hnl : n ≤ 1024 := by have := (Im.chk_zero hc).1; have := HLN.out; omega
    have CF := Lib.hid (CF.out (Im.chk_zero hc).2.2)
    have CP := Lib.hid (CP.out hnl)
    rw [hc] at CK
    have hhas : Im.has l D = false := by
      unfold Im.has
      by_cases hf : Im.find l D < l.length
      · rw [List.getElem?_eq_getElem hf]
        have := hno hf
        simp; omega
      · rw [List.getElem?_eq_none (by omega)]; rfl
    rw [hhas] at CF
    obtain ⟨p, hp⟩ : ∃ p, Im.find l D = p := ⟨_, rfl⟩
    have hpn : p ≤ n := by rw [← hp, ← HLN.out]; exact Im.find_le l D
    rw [hp] at CF hR
    clear hhas hp hno
    rcases hR with ⟨hlen, hF⟩ | ⟨hlen, hF⟩
    · have HF := Lib.hid hF
      rw [HLN.out] at hlen
      have q2 : ((n : Int) == 1024) = true := by rw [hlen]; rfl
      clear hF hc hlen
      go_wp2_with (first | (go_at_call 18; with_reducible refine (CK.out _ HB1.out).mono ?_; rintro e w2 ⟨rfl, hb2⟩; have HB2 := Lib.hid (show Below B w w2 from HB1.out.trans (hb2.mono (by omega))); have g5 := (hb2.cell (p := ⟨B, 0, none⟩) (by show B < _; omega)).trans g3; have x5 := (hb2.block (B + 1) (by omega)).trans X4.out; have X5 := Lib.hid x5; have hs2 := hb2.size; clear x5 hb2) | (go_at_call 13; with_reducible refine (CS.out _).mono ?_; rintro e w3 ⟨rfl, rfl⟩) | (go_at_call 35; with_reducible refine (CF.out _ HB2.out).mono ?_; rintro e w3 ⟨rfl, hb3⟩; have HB3 := Lib.hid (show Below B w w3 from HB2.out.trans (hb3.mono (by omega))); have g6 := (hb3.cell (p := ⟨B, 0, none⟩) (by show B < _; omega)).trans g5; have x6 := (hb3.block (B + 1) (by omega)).trans X5.out; obtain ⟨t6, f6⟩ := cell_frozen_one x6; have hs3 := hb3.size; clear x6 hb3) | fail)
      have r7 := World.cell?_setCell_same _ _ (.slice none 0 0) t6
      exact bodyPost_ret (v := .tuple #[.agg #[.slice none 0 0], .bool false, .int .i64 4]) (by simp [results, Try.results22, go_sem, r7]) rfl ⟨.slice none 0 0, by rw [HF.out], by rw [HF.out]; exact RowsOwn.nil _ _, HB3.out.setCell (by show B ≤ B + 1; omega) _⟩
    · have HF := Lib.hid hF
      rw [HLN.out] at hlen
      have q2 : ((n : Int) == 1024) = false := beq_eq_false_iff_ne.2 (by omega)
      clear hF hc
      go_wp2_with (first | (go_at_call 18; with_reducible refine (CK.out _ HB1.out).mono ?_; rintro e w2 ⟨rfl, hb2⟩; have HB2 := Lib.hid (show Below B w w2 from HB1.out.trans (hb2.mono (by omega))); have g5 := (hb2.cell (p := ⟨B, 0, none⟩) (by show B < _; omega)).trans g3; have x5 := (hb2.block (B + 1) (by omega)).trans X4.out; have X5 := Lib.hid x5; have hs2 := hb2.size; clear x5 hb2) | (go_at_call 13; with_reducible refine (CS.out _).mono ?_; rintro e w3 ⟨rfl, rfl⟩) | (go_at_call 35; with_reducible refine (CF.out _ HB2.out).mono ?_; rintro e w3 ⟨rfl, hb3⟩; have HB3 := Lib.hid (show Below B w w3 from HB2.out.trans (hb3.mono (by omega))); have g6 := (hb3.cell (p := ⟨B, 0, none⟩) (by show B < _; omega)).trans g5; have x6 := (hb3.block (B + 1) (by omega)).trans X5.out; have X6 := Lib.hid x6; have hs3 := hb3.size; clear x6 hb3) | (go_at_call 37; with_reducible refine (CC.out _).mono ?_; rintro e w4 ⟨rfl, hb4⟩; have HB4 := Lib.hid (show Below B w w4 from HB3.out.trans (hb4.mono (by omega))); have g7 := (hb4.cell (p := ⟨B, 0, none⟩) (by show B < _; omega)).trans g6; have x7 := (hb4.block (B + 1) (by omega)).trans X6.out; have X7 := Lib.hid x7; have hs4 := hb4.size; clear x7 hb4) | fail)
      obtain ⟨rb, hrb⟩ : ∃ rb, w4.heap.size = rb := ⟨_, rfl⟩
      rw [hrb]
      obtain ⟨wb, hwb⟩ : ∃ V, w4.alloc (.cells #[.int .i64 D, .int .i64 1, .string S] 37) = V := ⟨_, rfl⟩
      have hxb : wb.heap[rb]? = some (.cells #[.int .i64 D, .int .i64 1, .string S] 37 (0, 0)) := by rw [← hwb, ← hrb]; exact heap_alloc_new _ _
      have hsb : wb.heap.size = rb + 1 := by rw [← hwb]; simp [hrb]
      have hBb : Below B w wb := by rw [← hwb]; exact HB4.out.alloc (by omega) _
      have g8 : wb.cell? ⟨B, 0, none⟩ = some (.slice A n c) := by rw [← hwb]; exact (World.cell?_alloc_lt _ _ _ (by show B < _; omega)).trans g7
      have x8 : wb.heap[B + 1]? = some (.cells #[.slice none 0 0] 25 (0, 0)) := by rw [← hwb]; exact (Below.heap_alloc w4 _ _ (by omega)).trans X7.out
      have y0 : wb.cell? ⟨rb, 0, none⟩ = some (.int .i64 D) := by simp [World.cell?, hxb]
      have y1 : wb.cell? ⟨rb, 1, none⟩ = some (.int .i64 1) := by simp [World.cell?, hxb]
      have y2 : wb.cell? ⟨rb, 2, none⟩ = some (.string S) := by simp [World.cell?, hxb]
      have cb : Cm.b s = S := by rw [← HSE.out, Cm.b_of]
      have hBb2 : Below B w (wb.alloc (.cells #[.int .i64 D, .int .i64 1, .string S] 37)) := hBb.alloc (by omega) _
      have x8b : (wb.alloc (.cells #[.int .i64 D, .int .i64 1, .string S] 37)).heap[B + 1]? = some (.cells #[.slice none 0 0] 25 (0, 0)) := (Below.heap_alloc wb _ _ (by omega)).trans x8
      have xl : (wb.alloc (.cells #[.int .i64 D, .int .i64 1, .string S] 37)).heap[rb + 1]? = some (.cells #[.int .i64 D, .int .i64 1, .string S] 37 (0, 0)) := by rw [← hsb]; exact heap_alloc_new _ _
      have hsb2 : (wb.alloc (.cells #[.int .i64 D, .int .i64 1, .string S] 37)).heap.size = rb + 2 := by simp [hsb]
      have hBr : B + 2 ≤ rb := by omega
      have hA0 : ∀ (w6 : World) (v6 : Value), RowsOwn w6 (rb + 1) v6 l → Below (rb + 1) wb w6 → ∃ A6 c6, v6 = .slice A6 n c6 ∧
          (Calls Try.prog 38 #[.slice A6 n c6, .int .i64 p, .slice (some ⟨w6.heap.size, 0, none⟩) 1 1] (w6.alloc (.cells #[.int .i64 D, .int .i64 1, .string S] 37)) fun e w' => ∃ v', e = .returned v' ∧ RowsOwn w' (rb + 1) v' (l.take p ++ (D, 1, s) :: l.drop p) ∧ Below (rb + 1) (w6.alloc (.cells #[.int .i64 D, .int .i64 1, .string S] 37)) w') ∧
          (w6.alloc (.cells #[.int .i64 D, .int .i64 1, .string S] 37)).heap[B + 1]? = some (.cells #[.slice none 0 0] 25 (0, 0)) ∧ Below B w (w6.alloc (.cells #[.int .i64 D, .int .i64 1, .string S] 37)) ∧ rb + 1 ≤ w6.heap.size ∧ Below (rb + 1) wb (w6.alloc (.cells #[.int .i64 D, .int .i64 1, .string S] 37)) := fun w6 v6 ho6 hb6 => by
        obtain ⟨A6, c6, hv6, _⟩ := own_rows ho6
        rw [HLN.out] at hv6
        subst hv6
        have hs6 := hb6.size
        have hlt := World.ownsRow.lt ho6
        refine ⟨A6, c6, rfl, ?_, ?_, ?_, by omega, hb6.alloc (by omega) _⟩
        · exact insert_any (rb + 1) A6 n c6 p w6.heap.size l (D, 1, s) (w6.alloc (.cells #[.int .i64 D, .int .i64 1, .string S] 37)) (ho6.alloc _) HLN.out (by omega) hpn (by simp; omega) (fun g hg => by subst hg; have := (hlt g rfl).2; omega) (by rw [cb]; exact heap_alloc_new _ _)
        · exact (Below.heap_alloc w6 _ _ (by omega)).trans ((hb6.block (B + 1) (by omega)).trans x8)
        · exact (hBb.trans (hb6.mono (by omega))).alloc (by omega) _
      have hA1 : ∀ (w6 : World) (v6 : Value), RowsOwn w6 (rb + 2) v6 l → Below (rb + 2) (wb.alloc (.cells #[.int .i64 D, .int .i64 1, .string S] 37)) w6 → ∃ A6 c6, v6 = .slice A6 n c6 ∧
          (Calls Try.prog 38 #[.slice A6 n c6, .int .i64 p, .slice (some ⟨rb + 1, 0, none⟩) 1 1] w6 fun e w' => ∃ v', e = .returned v' ∧ RowsOwn w' (rb + 1) v' (l.take p ++ (D, 1, s) :: l.drop p) ∧ Below (rb + 1) w6 w') ∧
          w6.heap[B + 1]? = some (.cells #[.slice none 0 0] 25 (0, 0)) ∧ Below B w w6 ∧ rb + 1 ≤ w6.heap.size ∧ Below (rb + 1) wb w6 := fun w6 v6 ho6 hb6 => by
        obtain ⟨A6, c6, hv6, _⟩ := own_rows ho6
        rw [HLN.out] at hv6
        subst hv6
        have hs6 := hb6.size
        have hlt := World.ownsRow.lt ho6
        refine ⟨A6, c6, rfl, ?_, ?_, ?_, by omega, ((Below.refl (rb + 1) wb).alloc (by omega) _).trans (hb6.mono (by omega))⟩
        · exact insert_any (rb + 1) A6 n c6 p (rb + 1) l (D, 1, s) w6 (ho6.mono (by omega)) HLN.out (by omega) hpn (by omega) (fun g hg => by subst hg; have := (hlt g rfl).1; omega) (by rw [cb]; exact (hb6.block (rb + 1) (by omega)).trans xl)
        · exact (hb6.block (B + 1) (by omega)).trans x8b
        · exact hBb2.trans (hb6.mono (by omega))
      have C0 := Lib.hid (by have h := CP.out wb.drew hBb.drew; rw [show wb.drew.heap.size = rb + 1 from hsb] at h; exact h)
      have C1 := Lib.hid (by have h := CP.out (wb.alloc (.cells #[.int .i64 D, .int .i64 1, .string S] 37)).drew hBb2.drew; rw [show (wb.alloc (.cells #[.int .i64 D, .int .i64 1, .string S] 37)).drew.heap.size = rb + 2 from hsb2] at h; exact h)
      have HA0 := Lib.hid hA0
      have KK := Lib.hid (show ∀ V, Below (rb + 1) wb V → V.cell? ⟨B, 0, none⟩ = some (.slice A n c) ∧ V.cell? ⟨rb, 0, none⟩ = some (.int .i64 D) ∧ V.cell? ⟨rb, 1, none⟩ = some (.int .i64 1) ∧ V.cell? ⟨rb, 2, none⟩ = some (.string S) from fun V hV => ⟨(hV.cell (p := ⟨B, 0, none⟩) (by show B < _; omega)).trans g8, (hV.cell (p := ⟨rb, 0, none⟩) (by show rb < _; omega)).trans y0, (hV.cell (p := ⟨rb, 1, none⟩) (by show rb < _; omega)).trans y1, (hV.cell (p := ⟨rb, 2, none⟩) (by show rb < _; omega)).trans y2⟩)
      have HA1 := Lib.hid hA1
      have HSB := Lib.hid hsb
      have HWB := Lib.hid hwb
      rw [hwb]
      clear hA0 hA1 hwb hxb hBb x8 hBb2 x8b xl hsb2 cb hrb g5 g6 g7
      go_region_held3 (fun V => V.cell? ⟨B, 0, none⟩ = some (.slice A n c) ∧ V.cell? ⟨rb, 0, none⟩ = some (.int .i64 D) ∧ V.cell? ⟨rb, 1, none⟩ = some (.int .i64 1) ∧ V.cell? ⟨rb, 2, none⟩ = some (.string S)) (first | exact HQ.out | go_keep) ((first
        | (go_at_call 39; with_reducible refine C0.out.mono ?_; rintro e w6 ⟨v6, rfl, ho6, hb6⟩; have hb6 := (Below.refl (rb + 1) wb).drew.trans hb6; obtain ⟨A6, c6, rfl, hci, hx9, hB9, hs6, hbk⟩ := HA0.out w6 _ ho6 hb6; obtain ⟨s0, s1, s2, s3⟩ := KK.out w6 hb6; have HBK := Lib.hid hbk; have CI := Lib.hid hci; have X9 := Lib.hid hx9; have HB9 := Lib.hid hB9; clear ho6 hb6 hci hx9 hB9 hbk)
        | (go_at_call 39; with_reducible refine C1.out.mono ?_; rintro e w6 ⟨v6, rfl, ho6, hb6⟩; have hb6 := (Below.refl (rb + 2) (wb.alloc (.cells #[.int .i64 D, .int .i64 1, .string S] 37))).drew.trans hb6; obtain ⟨A6, c6, rfl, hci, hx9, hB9, hs6, hbk⟩ := HA1.out w6 _ ho6 hb6; obtain ⟨s0, s1, s2, s3⟩ := KK.out w6 hbk; have HBK := Lib.hid hbk; have CI := Lib.hid hci; have X9 := Lib.hid hx9; have HB9 := Lib.hid hB9; clear ho6 hb6 hci hx9 hB9 hbk)
        | (go_at_call 38; with_reducible refine CI.out.mono ?_; rintro e w7 ⟨v7, rfl, ho7, hb7⟩; obtain ⟨A7, c7, hv7, hr7⟩ := own_rows ho7; clear hr7; obtain ⟨k7, hk7⟩ : ∃ k7, (l.take p ++ (D, 1, s) :: l.drop p).length = k7 := ⟨_, rfl⟩; rw [hk7] at hv7; clear hk7; subst hv7; have x9 := (hb7.block (B + 1) (by omega)).trans X9.out; obtain ⟨t9, f9⟩ := cell_frozen_one x9; obtain ⟨r0, r1, r2, r3⟩ := KK.out w7 (HBK.out.trans hb7); have HQ := Lib.hid (show (w7.setCell ⟨B + 1, 0, none⟩ (.slice A7 k7 c7)).cell? ⟨B, 0, none⟩ = some (.slice A n c) ∧ (w7.setCell ⟨B + 1, 0, none⟩ (.slice A7 k7 c7)).cell? ⟨rb, 0, none⟩ = some (.int .i64 D) ∧ (w7.setCell ⟨B + 1, 0, none⟩ (.slice A7 k7 c7)).cell? ⟨rb, 1, none⟩ = some (.int .i64 1) ∧ (w7.setCell ⟨B + 1, 0, none⟩ (.slice A7 k7 c7)).cell? ⟨rb, 2, none⟩ = some (.string S) from ⟨(World.cell?_setCell_other w7 ⟨B + 1, 0, none⟩ ⟨B, 0, none⟩ _ (fun e => absurd (congrArg Addr.block e) (show ¬ _ = _ by dsimp only; omega))).trans r0, (World.cell?_setCell_other w7 ⟨B + 1, 0, none⟩ ⟨rb, 0, none⟩ _ (fun e => absurd (congrArg Addr.block e) (show ¬ _ = _ by dsimp only; omega))).trans r1, (World.cell?_setCell_other w7 ⟨B + 1, 0, none⟩ ⟨rb, 1, none⟩ _ (fun e => absurd (congrArg Addr.block e) (show ¬ _ = _ by dsimp only; omega))).trans r2, (World.cell?_setCell_other w7 ⟨B + 1, 0, none⟩ ⟨rb, 2, none⟩ _ (fun e => absurd (congrArg Addr.block e) (show ¬ _ = _ by dsimp only; omega))).trans r3⟩); have HO7 := Lib.hid ho7; have HB7 := Lib.hid (HB9.out.trans (hb7.mono (by omega))); clear ho7 hb7 x9)
        | fail))
      all_goals (
        go_wp2_with fail
        have r7 := World.cell?_setCell_same _ _ (.slice A7 k7 c7) t9
        exact bodyPost_ret (v := .tuple #[.agg #[.slice A7 k7 c7], .bool true, .int .i64 0]) (by simp [results, Try.results22, go_sem, r7]) rfl ⟨.slice A7 k7 c7, by rw [HF.out], by rw [HF.out]; exact (HO7.out.setCell (by show B + 1 < _; omega) _).mono (by omega), HB7.out.setCell (by show B ≤ B + 1; omega) _⟩)

end Go.Proofs.Ytmdakplaaehmnaa
