/-
  Contracts of refs: Total, row, Get.
-/
import Derived.Test.YtmdakplaaehmnaaJa
import Derived.Test.YtmdakplaaehmnaaJb
import Derived.Test.YtmdakplaaehmnaaId
import Derived.Test.YtmdakplaaehmnaaClone
namespace Go.Proofs.Ytmdakplaaehmnaa
open Go.RowKit
set_option maxHeartbeats 4000000

set_option maxRecDepth 100000 in
theorem total_any (A : Option Addr) (n c : Nat) (l : List Im.Rw) (w : World) (hl : RowsIn w A n c l) (hz : ∀ x ∈ l, x.2.2.length ≤ 140737488355328) (hn : n ≤ 17592186044416) :
    Calls Try.prog 16 #[.agg #[.slice A n c]] w fun e w' => e = .returned (.tuple #[.int .i64 (Im.tot l).1, .int .i64 (Im.tot l).2.1, .int .i64 (Im.tot l).2.2]) ∧ Below w.heap.size w w' := by
  have hln := hl.1
  obtain ⟨B, hB⟩ : ∃ B, w.heap.size = B := ⟨_, rfl⟩
  obtain ⟨w1, hw1⟩ : ∃ V, w.alloc (.cells #[.slice A n c] 25) = V := ⟨_, rfl⟩
  have hb1 : Below B w w1 := by rw [← hw1, ← hB]; exact (Below.refl _ _).alloc (Nat.le_refl _) _
  have hs1 : w1.heap.size = B + 1 := by rw [← hw1]; simp [hB]
  have hx1 : w1.heap[B]? = some (.cells #[.slice A n c] 25 (0, 0)) := by rw [← hw1, ← hB]; exact heap_alloc_new _ _
  have CK := Lib.hid (fun V (hV : Below w.heap.size w V) => check_any A n c l V (hl.below hV) hz hn)
  have HL := Lib.hid hl
  have HLN := Lib.hid hln
  have HW1 := Lib.hid hw1
  have HB1 := Lib.hid hb1
  have HX1 := Lib.hid hx1
  have HBE := Lib.hid hB
  clear hl hw1 hb1 hx1 hln hz
  rw [hB] at CK ⊢
  go_enter Try.func16, Try.ntmps16
  go_wp2_with fail
  rw [HW1.out]
  clear hB
  have g3 : w1.cell? ⟨B, 0, none⟩ = some (.slice A n c) := by have := HX1.out; simp [World.cell?, this]
  rcases Im.chk_is l with hc | hc
  · rw [hc] at CK
    have HOK := Lib.hid (Im.chk_zero hc)
    have HF := Lib.hid (show Im.tot l = (Im.once l, Im.all l, 0) by unfold Im.tot; rw [if_neg (by simp [hc])])
    clear hc
    go_wp2_with (first | (go_at_call 18; with_reducible refine (CK.out _ HB1.out).mono ?_; rintro e w2 ⟨rfl, hb2⟩; have HB2 := Lib.hid (show Below B w w2 from HB1.out.trans (hb2.mono (by omega))); have g5 := (hb2.cell (p := ⟨B, 0, none⟩) (by show B < _; omega)).trans g3; have hs2 := hb2.size; clear hb2) | fail)
    have HB2' := Lib.hid (show Below (B + 1) w2 w2 from Below.refl _ _)
    have hs1' : B + 1 ≤ w2.heap.size := by omega
    go_loopw [6, 7, 18] (fun u v i wr => ∃ k : Nat, k ≤ n ∧ i = .int .i64 k ∧ u = .int .i64 (Im.once (l.take k)) ∧ v = .int .i64 (Im.all (l.take k)) ∧ 0 ≤ Im.once (l.take k) ∧ Im.once (l.take k) ≤ k * 16384 ∧ 0 ≤ Im.all (l.take k) ∧ Im.all (l.take k) ≤ k * 35184372064256 ∧ Below (B + 1) w2 wr) (fun u v i _ => n - (intOf i).toNat)
    case atStart => exact ⟨0, by omega, rfl, by simp [Im.once], by simp [Im.all], by simp [Im.once], by simp [Im.once], by simp [Im.all], by simp [Im.all], Below.refl _ _⟩
    case round =>
      obtain ⟨k, hk, rfl, rfl, rfl, ho0, ho1, ha0, ha1, hBr⟩ := hrel
      have hsz := hBr.size
      have HBr := Lib.hid hBr
      obtain ⟨O, hO⟩ : ∃ O, Im.once (l.take k) = O := ⟨_, rfl⟩
      obtain ⟨L, hL⟩ : ∃ L, Im.all (l.take k) = L := ⟨_, rfl⟩
      rw [hO] at ho0 ho1
      rw [hL] at ha0 ha1
      rw [hO, hL]
      have HO := Lib.hid hO
      have HLL := Lib.hid hL
      by_cases hlt : k < n
      · have d8 : decide ((k : Int) < (n : Int)) = true := by simp; omega
        obtain ⟨g, o, rfl, hg, hzl, y0, y1, y2⟩ := HL.out.at hlt
        rw [HBE.out] at hg
        have hBw : Below B w wr := HB2.out.trans (hBr.mono (by omega))
        have z0 := (hBw.cell (p := ⟨g, o + k * 3, none⟩) hg).trans y0
        have z1 := (hBw.cell (p := ⟨g, o + k * 3 + 1, none⟩) hg).trans y1
        have z2 := (hBw.cell (p := ⟨g, o + k * 3 + 2, none⟩) hg).trans y2
        have hkl : k < l.length := by rw [HLN.out]; exact hlt
        obtain ⟨x, hx⟩ : ∃ x, l[k] = x := ⟨_, rfl⟩
        have hkn : k ≤ 1024 := by have := HOK.out.1; have := HLN.out; omega
        obtain ⟨q1, _, q3, q4⟩ := HOK.out.2.1 _ (List.getElem_mem hkl)
        rw [hx] at z0 z1 z2 q1 q3 q4
        have ht : l.take (k + 1) = l.take k ++ [x] := by rw [← hx]; exact (List.take_append_getElem hkl).symm
        have hO1 := Im.once_snoc (l.take k) x
        have hL1 := Im.all_snoc (l.take k) x
        rw [← ht] at hO1 hL1
        rw [hO] at hO1
        rw [hL] at hL1
        obtain ⟨a, ct, s⟩ := x
        simp only at z0 z1 z2 q1 q3 q4 hO1 hL1
        obtain ⟨m0, m1⟩ := Im.mul_bound q1 q3 q4
        obtain ⟨S, hS⟩ : ∃ S, Cm.b s = S := ⟨_, rfl⟩
        have hSs : S.size = s.length := by rw [← hS, Cm.b_size']
        rw [hS] at z2
        rw [← hSs] at q1 m0 m1 hO1 hL1
        obtain ⟨M, hM⟩ : ∃ M, (S.size : Int) * ct = M := ⟨_, rfl⟩
        have e1 : IntKind.i64.wrap ((S.size : Int) * ct) = M := by rw [hM]; exact IntWalk.i64_in _ (by rw [hM] at m0 m1; omega)
        rw [hM] at m0 m1 hL1
        have e2 : IntKind.i64.wrap (L + M) = L + M := IntWalk.i64_in _ (by omega)
        have e3 : IntKind.i64.wrap (O + S.size) = O + S.size := IntWalk.i64_in _ (by omega)
        obtain ⟨nb, hnb⟩ : ∃ nb, wr.heap.size = nb := ⟨_, rfl⟩
        obtain ⟨wa, hwa⟩ : ∃ V, wr.alloc (.cells #[.int .i64 a, .int .i64 ct, .string S] 37) = V := ⟨_, rfl⟩
        have hna : wa.heap[nb]? = some (.cells #[.int .i64 a, .int .i64 ct, .string S] 37 (0, 0)) := by rw [← hwa, ← hnb]; exact heap_alloc_new _ _
        have hBa : Below (B + 1) w2 wa := by rw [← hwa]; exact hBr.alloc (by omega) _
        have g1 : wa.cell? ⟨nb, 1, none⟩ = some (.int .i64 ct) := by simp [World.cell?, hna]
        have g2 : wa.cell? ⟨nb, 2, none⟩ = some (.string S) := by simp [World.cell?, hna]
        have HREL := Lib.hid (show Im.once (l.take (k + 1)) = O + S.size ∧ Im.all (l.take (k + 1)) = L + M ∧ 0 ≤ O + S.size ∧ O + S.size ≤ (k + 1) * 16384 ∧ 0 ≤ L + M ∧ L + M ≤ (k + 1) * 35184372064256 from ⟨hO1, hL1, by omega, by omega, by omega, by omega⟩)
        have HWA := Lib.hid hwa
        have HBA := Lib.hid hBa
        clear hwa hBa hBr hBw y0 y1 y2 hx hS hna hzl hg hO hL hO1 hL1 ht hSs hM m0 m1 q1 q3 q4 ho0 ho1 ha0 ha1
        go_wp2_with fail
        rw [HWA.out]
        go_wp2_with fail
        obtain ⟨r1, r2, r3, r4, r5, r6⟩ := HREL.out
        refine ⟨⟨k + 1, by omega, by go_num, by rw [r1], by rw [r2], by rw [r1]; exact r3, by rw [r1]; exact r4, by rw [r2]; exact r5, by rw [r2]; exact r6, HBA.out⟩, ?_⟩
        simp [intOf]; omega
      · obtain rfl : k = n := by omega
        have d8 : decide ((k : Int) < (k : Int)) = false := by simp
        have HT := Lib.hid (show l.take k = l from by rw [← HLN.out, List.take_length])
        clear hBr
        go_wp2_with fail
        exact bodyPost_ret (v := .tuple #[.int .i64 O, .int .i64 L, .int .i64 0]) (by simp [results, Try.results16, go_sem]) rfl ⟨by rw [HF.out, ← HO.out, ← HLL.out, HT.out], HB2.out.trans (HBr.out.mono (by omega))⟩
  · rw [hc] at CK
    have HF := Lib.hid (show Im.tot l = (0, 0, 2) by unfold Im.tot; rw [if_pos (by rw [hc]; decide)])
    clear hc
    go_wp2_with (first | (go_at_call 18; with_reducible refine (CK.out _ HB1.out).mono ?_; rintro e w2 ⟨rfl, hb2⟩; have HB2 := Lib.hid (show Below B w w2 from HB1.out.trans (hb2.mono (by omega)))) | fail)
    exact bodyPost_ret (v := .tuple #[.int .i64 0, .int .i64 0, .int .i64 2]) (by simp [results, Try.results16, go_sem]) rfl ⟨by rw [HF.out], HB2.out⟩


set_option maxRecDepth 100000 in
theorem row_any (A : Option Addr) (n c : Nat) (l : List Im.Rw) (d : Int) (w : World) (hl : RowsIn w A n c l) (hz : ∀ x ∈ l, x.2.2.length ≤ 140737488355328) (hn : n ≤ 17592186044416) :
    Calls Try.prog 41 #[.agg #[.slice A n c], .int .i64 d] w fun e w' => e = .returned (.tuple (if Im.chk l = 0 then (if Im.has l d = true then #[.int .i64 (Im.find l d : Nat), .int .i64 0] else #[.int .i64 0, .int .i64 6]) else #[.int .i64 0, .int .i64 2])) ∧ Below w.heap.size w w' := by
  obtain ⟨B, hB⟩ : ∃ B, w.heap.size = B := ⟨_, rfl⟩
  obtain ⟨w1, hw1⟩ : ∃ V, w.alloc (.cells #[.slice A n c] 25) = V := ⟨_, rfl⟩
  have hb1 : Below B w w1 := by rw [← hw1, ← hB]; exact (Below.refl _ _).alloc (Nat.le_refl _) _
  have hs1 : w1.heap.size = B + 1 := by rw [← hw1]; simp [hB]
  have hx1 : w1.heap[B]? = some (.cells #[.slice A n c] 25 (0, 0)) := by rw [← hw1, ← hB]; exact heap_alloc_new _ _
  have CK := Lib.hid (fun V (hV : Below w.heap.size w V) => check_any A n c l V (hl.below hV) hz hn)
  have CF := Lib.hid (fun (hA : Im.Asc l) V (hV : Below w.heap.size w V) => find_any A n c l d V (hl.below hV) hA hn)
  have HW1 := Lib.hid hw1
  have HB1 := Lib.hid hb1
  have g3 : w1.cell? ⟨B, 0, none⟩ = some (.slice A n c) := by simp [World.cell?, hx1]
  clear hl hw1 hb1 hx1 hz
  obtain ⟨R, hR⟩ : ∃ R : Array Value, (if Im.chk l = 0 then (if Im.has l d = true then #[.int .i64 (Im.find l d : Nat), .int .i64 0] else #[.int .i64 0, .int .i64 6]) else #[.int .i64 0, .int .i64 2]) = R := ⟨_, rfl⟩
  rw [hR]
  have HR := Lib.hid hR
  clear hR
  rw [hB] at CK CF ⊢
  go_enter Try.func41, Try.ntmps41
  go_wp2_with fail
  rw [HW1.out]
  clear hB
  rcases Im.chk_is l with hc | hc
  · have CG := Lib.hid (CF.out (Im.chk_zero hc).2.2)
    rw [hc] at CK
    cases hh : Im.has l d with
    | false =>
      rw [hh] at CG
      have HR := HR.out
      rw [hc, hh] at HR
      simp only [if_true, Bool.false_eq_true, if_false] at HR
      subst HR
      clear CF hc hh
      go_wp2_with (first | (go_at_call 18; with_reducible refine (CK.out _ HB1.out).mono ?_; rintro e w2 ⟨rfl, hb2⟩; have HB2 := Lib.hid (show Below B w w2 from HB1.out.trans (hb2.mono (by omega))); have g5 := (hb2.cell (p := ⟨B, 0, none⟩) (by show B < _; omega)).trans g3; have hs2 := hb2.size; clear hb2) | (go_at_call 35; with_reducible refine (CG.out _ HB2.out).mono ?_; rintro e w3 ⟨rfl, hb3⟩; have HB3 := Lib.hid (show Below B w w3 from HB2.out.trans (hb3.mono (by omega)))) | fail)
      exact bodyPost_ret (v := .tuple #[.int .i64 0, .int .i64 6]) (by simp [results, Try.results41, go_sem]) rfl ⟨rfl, HB3.out⟩
    | true =>
      rw [hh] at CG
      have HR := HR.out
      rw [hc, hh] at HR
      simp only [if_true] at HR
      subst HR
      clear CF hc hh
      go_wp2_with (first | (go_at_call 18; with_reducible refine (CK.out _ HB1.out).mono ?_; rintro e w2 ⟨rfl, hb2⟩; have HB2 := Lib.hid (show Below B w w2 from HB1.out.trans (hb2.mono (by omega))); have g5 := (hb2.cell (p := ⟨B, 0, none⟩) (by show B < _; omega)).trans g3; have hs2 := hb2.size; clear hb2) | (go_at_call 35; with_reducible refine (CG.out _ HB2.out).mono ?_; rintro e w3 ⟨rfl, hb3⟩; have HB3 := Lib.hid (show Below B w w3 from HB2.out.trans (hb3.mono (by omega)))) | fail)
      exact bodyPost_ret (v := .tuple #[.int .i64 (Im.find l d : Nat), .int .i64 0]) (by simp [results, Try.results41, go_sem]) rfl ⟨rfl, HB3.out⟩
  · rw [hc] at CK
    have HR := HR.out
    rw [hc] at HR
    simp only [show ¬ ((2 : Int) = 0) by decide, if_false] at HR
    subst HR
    clear hc CF
    go_wp2_with (first | (go_at_call 18; with_reducible refine (CK.out _ HB1.out).mono ?_; rintro e w2 ⟨rfl, hb2⟩; have HB2 := Lib.hid (show Below B w w2 from HB1.out.trans (hb2.mono (by omega)))) | fail)
    exact bodyPost_ret (v := .tuple #[.int .i64 0, .int .i64 2]) (by simp [results, Try.results41, go_sem]) rfl ⟨rfl, HB2.out⟩

set_option maxRecDepth 100000 in
theorem get_any (A : Option Addr) (n c : Nat) (l : List Im.Rw) (d : Int) (w : World) (hl : RowsIn w A n c l) (hz : ∀ x ∈ l, x.2.2.length ≤ 140737488355328) (hn : n ≤ 17592186044416) :
    Calls Try.prog 26 #[.agg #[.slice A n c], .int .i64 d] w fun e w' => e = .returned (.tuple #[.string (Cm.b (Im.get l d).1), .int .i64 (Im.get l d).2.1, .int .i64 (Im.get l d).2.2]) ∧ Below w.heap.size w w' := by
  have hln := hl.1
  obtain ⟨B, hB⟩ : ∃ B, w.heap.size = B := ⟨_, rfl⟩
  obtain ⟨w1, hw1⟩ : ∃ V, w.alloc (.cells #[.slice A n c] 25) = V := ⟨_, rfl⟩
  have hb1 : Below B w w1 := by rw [← hw1, ← hB]; exact (Below.refl _ _).alloc (Nat.le_refl _) _
  have hs1 : w1.heap.size = B + 1 := by rw [← hw1]; simp [hB]
  have hx1 : w1.heap[B]? = some (.cells #[.slice A n c] 25 (0, 0)) := by rw [← hw1, ← hB]; exact heap_alloc_new _ _
  have g3 : w1.cell? ⟨B, 0, none⟩ = some (.slice A n c) := by simp [World.cell?, hx1]
  have CR := Lib.hid (fun V (hV : Below w.heap.size w V) => row_any A n c l d V (hl.below hV) hz hn)
  have HL := Lib.hid hl
  have HLN := Lib.hid hln
  have HZ := Lib.hid hz
  have HW1 := Lib.hid hw1
  have HB1 := Lib.hid hb1
  have HBE := Lib.hid hB
  clear hl hw1 hb1 hx1 hln hz
  rw [hB] at CR ⊢
  go_enter Try.func26, Try.ntmps26
  go_wp2_with fail
  rw [HW1.out]
  clear hB
  rcases Im.chk_is l with hc | hc
  · cases hh : Im.has l d with
    | false =>
      rw [hc, hh] at CR
      simp only [if_true, Bool.false_eq_true, if_false] at CR
      have HF := Lib.hid (Im.get_not (d := d) hc hh)
      clear hc hh
      go_wp2_with (first | (go_at_call 41; with_reducible refine (CR.out _ HB1.out).mono ?_; rintro e w2 ⟨rfl, hb2⟩; have HB2 := Lib.hid (show Below B w w2 from HB1.out.trans (hb2.mono (by omega)))) | fail)
      exact bodyPost_ret (v := .tuple #[.string ByteArray.empty, .int .i64 0, .int .i64 6]) (by simp [results, Try.results26, go_sem]; rfl) rfl ⟨by rw [HF.out]; rfl, HB2.out⟩
    | true =>
      rw [hc, hh] at CR
      simp only [if_true] at CR
      obtain ⟨hi, hj⟩ := Im.has_row hh
      have hF := Im.get_has (d := d) hc hh hi
      obtain ⟨p, hp⟩ : ∃ p, Im.find l d = p := ⟨_, rfl⟩
      obtain ⟨x, hx⟩ : ∃ x, l[Im.find l d] = x := ⟨_, rfl⟩
      obtain ⟨g, o, rfl, hg, hzl, y0, y1, y2⟩ := HL.out.at (i := p) (by rw [← hp, ← HLN.out]; exact hi)
      have hx' : l[p] = x := by simp only [← hp]; exact hx
      have hzx := HZ.out _ (List.getElem_mem hzl)
      rw [hx'] at hzx
      rw [hx] at hF
      rw [hx'] at y0 y1 y2
      rw [hp] at CR
      have hpn : p < n := by rw [← hp, ← HLN.out]; exact hi
      have HF := Lib.hid hF
      obtain ⟨a, ct, s⟩ := x
      simp only at y0 y1 y2 HF hzx
      obtain ⟨S, hS⟩ : ∃ S, Cm.b s = S := ⟨_, rfl⟩
      rw [hS] at y2
      have hSs : S.size = s.length := by rw [← hS, Cm.b_size']
      have CC := Lib.hid (fun V => clone_any S V (by omega))
      have HS := Lib.hid hS
      have Y0 := Lib.hid y0
      have Y1 := Lib.hid y1
      have Y2 := Lib.hid y2
      have hgB : g < B := by rw [← HBE.out]; exact hg
      have j2 : (p : Int) < (n : Int) := by omega
      have j1 : (0 : Int) ≤ (p : Int) := by omega
      clear hc hh hF hx hx' hp hzl hg y0 y1 y2 hj hS hSs hzx
      go_wp2_with (first | (go_at_call 41; with_reducible refine (CR.out _ HB1.out).mono ?_; rintro e w2 ⟨rfl, hb2⟩; have HB2 := Lib.hid (show Below B w w2 from HB1.out.trans (hb2.mono (by omega))); have g5 := (hb2.cell (p := ⟨B, 0, none⟩) (by show B < _; omega)).trans g3; have z0 := (HB2.out.cell (p := ⟨g, o + p * 3, none⟩) hgB).trans Y0.out; have z1 := (HB2.out.cell (p := ⟨g, o + p * 3 + 1, none⟩) hgB).trans Y1.out; have z2 := (HB2.out.cell (p := ⟨g, o + p * 3 + 2, none⟩) hgB).trans Y2.out; have hs2 := hb2.size; clear hb2) | fail)
      obtain ⟨nb, hnb⟩ : ∃ nb, w2.heap.size = nb := ⟨_, rfl⟩
      rw [hnb]
      obtain ⟨wa, hwa⟩ : ∃ V, w2.alloc (.cells #[.int .i64 a, .int .i64 ct, .string S] 37) = V := ⟨_, rfl⟩
      have hna : wa.heap[nb]? = some (.cells #[.int .i64 a, .int .i64 ct, .string S] 37 (0, 0)) := by rw [← hwa, ← hnb]; exact heap_alloc_new _ _
      have hsa : wa.heap.size = nb + 1 := by rw [← hwa]; simp [hnb]
      have HBA := Lib.hid (show Below B w wa from by rw [← hwa]; exact HB2.out.alloc (by omega) _)
      have fr : ∀ y : Ext wa.heap.size wa, y.1.cell? ⟨nb, 1, none⟩ = some (.int .i64 ct) ∧ y.1.cell? ⟨nb, 2, none⟩ = some (.string S) := fun y => by
        have h1 := (y.2.block nb (by omega)).trans hna
        refine ⟨?_, ?_⟩ <;> simp [World.cell?, h1]
      have g1 := fun y => (fr y).1
      have g2 := fun y => (fr y).2
      rw [hwa]
      clear fr hna hwa z0 z1 z2 g5
      refine wp_region_below wa.heap.size (by kernel_rfl) (by kernel_rfl) ?_
      repeat (go_big_quiet_step ((go_at_call 37; exact Calls.ext_of _ (Nat.le_refl _) (CC.out _))))
      refine wpQuiet_nil ?_
      intro w5 hB5
      have HB5 := Lib.hid (HBA.out.trans (hB5.mono (by omega)))
      clear hB5 g1 g2
      go_wp2_with fail
      exact bodyPost_ret (v := .tuple #[.string S, .int .i64 ct, .int .i64 0]) (by simp [results, Try.results26, go_sem]) rfl ⟨by rw [HF.out, ← HS.out], HB5.out⟩
  · rw [hc] at CR
    simp only [show ¬ ((2 : Int) = 0) by decide, if_false] at CR
    have HF := Lib.hid (Im.get_bad (d := d) hc)
    clear hc
    go_wp2_with (first | (go_at_call 41; with_reducible refine (CR.out _ HB1.out).mono ?_; rintro e w2 ⟨rfl, hb2⟩; have HB2 := Lib.hid (show Below B w w2 from HB1.out.trans (hb2.mono (by omega)))) | fail)
    exact bodyPost_ret (v := .tuple #[.string ByteArray.empty, .int .i64 0, .int .i64 2]) (by simp [results, Try.results26, go_sem]; rfl) rfl ⟨by rw [HF.out]; rfl, HB2.out⟩

end Go.Proofs.Ytmdakplaaehmnaa
