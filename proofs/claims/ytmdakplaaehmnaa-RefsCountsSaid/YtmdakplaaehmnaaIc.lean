/-
  Contracts of the reference of refs: Get, Total.
-/
import Derived.Test.YtmdakplaaehmnaaIb
namespace Go.Proofs.Ytmdakplaaehmnaa
open Go.RowKit
set_option maxHeartbeats 2000000

theorem Im.chk_is (l : List Im.Rw) : Im.chk l = 0 ∨ Im.chk l = 2 := by
  by_cases h : Im.chk l = 0
  · exact .inl h
  · exact .inr (Im.chk_two h)
theorem Im.has_row {l : List Im.Rw} {d : Int} (h : Im.has l d = true) : ∃ hi : Im.find l d < l.length, l[Im.find l d].1 = d := by
  unfold Im.has at h
  by_cases hi : Im.find l d < l.length
  · rw [List.getElem?_eq_getElem hi] at h
    exact ⟨hi, by simpa using h⟩
  · rw [List.getElem?_eq_none (by omega)] at h; cases h
theorem Im.get_has {l : List Im.Rw} {d : Int} (h0 : Im.chk l = 0) (h : Im.has l d = true) (hi : Im.find l d < l.length) : Im.get l d = (l[Im.find l d].2.2, l[Im.find l d].2.1, 0) := by
  obtain ⟨hi, e⟩ := Im.has_row h
  unfold Im.get
  rw [if_neg (by simp [h0]), List.getElem?_eq_getElem hi]
  simp only
  rw [if_pos e]
theorem Im.get_not {l : List Im.Rw} {d : Int} (h0 : Im.chk l = 0) (h : Im.has l d = false) : Im.get l d = ([], 0, 6) := by
  unfold Im.get
  unfold Im.has at h
  rw [if_neg (by simp [h0])]
  cases hq : l[Im.find l d]? with
  | none => rfl
  | some r =>
    rw [hq] at h
    simp only
    rw [if_neg (by simpa using h)]
theorem Im.get_bad {l : List Im.Rw} {d : Int} (h0 : Im.chk l = 2) : Im.get l d = ([], 0, 2) := by
  unfold Im.get
  rw [if_pos (by rw [h0]; decide)]
theorem b_nil : Cm.b [] = ByteArray.empty := by rfl

set_option maxRecDepth 100000 in
theorem rgetI_any (A : Option Addr) (n c : Nat) (l : List Im.Rw) (d : Int) (w : World) (hl : RowsIn w A n c l) (hz : ∀ x ∈ l, x.2.2.length ≤ 9223372036854775807) (hn : n ≤ 17592186044416) :
    Calls Try.prog 27 #[.agg #[.slice A n c], .int .i64 d] w fun e w' => e = .returned (.tuple #[.string (Cm.b (Im.get l d).1), .int .i64 (Im.get l d).2.1, .int .i64 (Im.get l d).2.2]) ∧ Below w.heap.size w w' := by
  have hln := hl.1
  obtain ⟨B, hB⟩ : ∃ B, w.heap.size = B := ⟨_, rfl⟩
  obtain ⟨w1, hw1⟩ : ∃ V, w.alloc (.cells #[.slice A n c] 25) = V := ⟨_, rfl⟩
  have hb1 : Below B w w1 := by rw [← hw1, ← hB]; exact (Below.refl _ _).alloc (Nat.le_refl _) _
  have hs1 : w1.heap.size = B + 1 := by rw [← hw1]; simp [hB]
  have hx1 : w1.heap[B]? = some (.cells #[.slice A n c] 25 (0, 0)) := by rw [← hw1, ← hB]; exact heap_alloc_new _ _
  have CK := Lib.hid (fun V (hV : Below w.heap.size w V) => rchkI_any A n c l V (hl.below hV) hz hn)
  have CF := Lib.hid (fun V (hV : Below w.heap.size w V) => rfindI_any A n c l d V (hl.below hV) hn)
  have HL := Lib.hid hl
  have HLN := Lib.hid hln
  have HW1 := Lib.hid hw1
  have HB1 := Lib.hid hb1
  have HX1 := Lib.hid hx1
  have HBE := Lib.hid hB
  clear hl hw1 hb1 hx1 hln hz
  rw [hB] at CK CF ⊢
  go_enter Try.func27, Try.ntmps27
  go_wp2_with fail
  rw [HW1.out]
  clear hB
  have g3 : w1.cell? ⟨B, 0, none⟩ = some (.slice A n c) := by have := HX1.out; simp [World.cell?, this]
  rcases Im.chk_is l with hc | hc
  · rw [hc] at CK
    cases hh : Im.has l d with
    | false =>
      rw [hh] at CF
      have HF := Lib.hid (Im.get_not (d := d) hc hh)
      clear hc hh
      go_wp2_with (first | (go_at_call 19; with_reducible refine (CK.out _ HB1.out).mono ?_; rintro e w2 ⟨rfl, hb2⟩; have HB2 := Lib.hid (show Below B w w2 from HB1.out.trans (hb2.mono (by omega))); have g5 := (hb2.cell (p := ⟨B, 0, none⟩) (by show B < _; omega)).trans g3; have hs2 := hb2.size; clear hb2) | (go_at_call 40; with_reducible refine (CF.out _ HB2.out).mono ?_; rintro e w3 ⟨rfl, hb3⟩; have HB3 := Lib.hid (show Below B w w3 from HB2.out.trans (hb3.mono (HBE.out ▸ HB2.out.size))); have g6 := (hb3.cell (p := ⟨B, 0, none⟩) (by show B < _; omega)).trans g5; clear hb3) | fail)
      exact bodyPost_ret (v := .tuple #[.string ByteArray.empty, .int .i64 0, .int .i64 6]) (by simp [results, Try.results27, go_sem]; rfl) rfl ⟨by rw [HF.out]; rfl, HB3.out⟩
    | true =>
      obtain ⟨hi, hj⟩ := Im.has_row hh
      have hF := Im.get_has (d := d) hc hh hi
      rw [hh] at CF
      obtain ⟨p, hp⟩ : ∃ p, Im.find l d = p := ⟨_, rfl⟩
      obtain ⟨x, hx⟩ : ∃ x, l[Im.find l d] = x := ⟨_, rfl⟩
      obtain ⟨g, o, rfl, hg, hzl, y0, y1, y2⟩ := HL.out.at (i := p) (by rw [← hp, ← HLN.out]; exact hi)
      have hx' : l[p] = x := by simp only [← hp]; exact hx
      rw [hx] at hF
      rw [hx'] at y0 y1 y2
      rw [hp] at CF
      have hpn : p < n := by rw [← hp, ← HLN.out]; exact hi
      have HF := Lib.hid hF
      obtain ⟨a, ct, s⟩ := x
      simp only at y0 y1 y2 HF
      obtain ⟨S, hS⟩ : ∃ S, Cm.b s = S := ⟨_, rfl⟩
      rw [hS] at y2
      have HS := Lib.hid hS
      have Y1 := Lib.hid y1
      have Y2 := Lib.hid y2
      have HG := Lib.hid (show g < B by rw [← HBE.out]; exact hg)
      clear hc hh hF hx hx' hp hzl hg y0 y1 y2 hj hS
      go_wp2_with (first | (go_at_call 19; with_reducible refine (CK.out _ HB1.out).mono ?_; rintro e w2 ⟨rfl, hb2⟩; have HB2 := Lib.hid (show Below B w w2 from HB1.out.trans (hb2.mono (by omega))); have g5 := (hb2.cell (p := ⟨B, 0, none⟩) (by show B < _; omega)).trans g3; have hs2 := hb2.size; clear hb2) | (go_at_call 40; with_reducible refine (CF.out _ HB2.out).mono ?_; rintro e w3 ⟨rfl, hb3⟩; have HB3 := Lib.hid (show Below B w w3 from HB2.out.trans (hb3.mono (HBE.out ▸ HB2.out.size))); have g6 := (hb3.cell (p := ⟨B, 0, none⟩) (by show B < _; omega)).trans g5; clear hb3) | fail)
      have z1 := (HB3.out.cell (p := ⟨g, o + p * 3 + 1, none⟩) HG.out).trans Y1.out
      have z2 := (HB3.out.cell (p := ⟨g, o + p * 3 + 2, none⟩) HG.out).trans Y2.out
      go_region
      go_wp2_with fail
      exact bodyPost_ret (v := .tuple #[.string S, .int .i64 ct, .int .i64 0]) (by simp [results, Try.results27, go_sem]) rfl ⟨by rw [HF.out, ← HS.out], HB3.out.drew⟩
  · rw [hc] at CK
    have HF := Lib.hid (Im.get_bad (d := d) hc)
    clear hc
    go_wp2_with (first | (go_at_call 19; with_reducible refine (CK.out _ HB1.out).mono ?_; rintro e w2 ⟨rfl, hb2⟩; have HB2 := Lib.hid (show Below B w w2 from HB1.out.trans (hb2.mono (by omega))); have g5 := (hb2.cell (p := ⟨B, 0, none⟩) (by show B < _; omega)).trans g3; have hs2 := hb2.size; clear hb2) | (go_at_call 40; with_reducible refine (CF.out _ HB2.out).mono ?_; rintro e w3 ⟨rfl, hb3⟩; have HB3 := Lib.hid (show Below B w w3 from HB2.out.trans (hb3.mono (HBE.out ▸ HB2.out.size))); have g6 := (hb3.cell (p := ⟨B, 0, none⟩) (by show B < _; omega)).trans g5; clear hb3) | fail)
    exact bodyPost_ret (v := .tuple #[.string ByteArray.empty, .int .i64 0, .int .i64 2]) (by simp [results, Try.results27, go_sem]; rfl) rfl ⟨by rw [HF.out]; rfl, HB2.out⟩

end Go.Proofs.Ytmdakplaaehmnaa
