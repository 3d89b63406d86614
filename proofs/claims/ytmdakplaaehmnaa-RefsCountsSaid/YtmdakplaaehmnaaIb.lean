/-
  Contracts of the reference of refs: find.
-/
import Derived.Test.YtmdakplaaehmnaaIa
namespace Go.Proofs.Ytmdakplaaehmnaa
open Go.RowKit
set_option maxHeartbeats 2000000

theorem Im.has_at {l : List Im.Rw} {d : Int} {k : Nat} (hk : k < l.length) (h1 : ∀ j (hj : j < l.length), j < k → l[j].1 < d) (h2 : d ≤ l[k].1) : Im.find l d = k ∧ Im.has l d = decide (l[k].1 = d) := by
  have e : Im.find l d = k := Im.find_eq (by omega) h1 (fun _ => h2)
  refine ⟨e, ?_⟩
  unfold Im.has
  rw [e, List.getElem?_eq_getElem hk]
  rfl
theorem Im.has_out {l : List Im.Rw} {d : Int} (h1 : ∀ j (hj : j < l.length), l[j].1 < d) : Im.find l d = l.length ∧ Im.has l d = false := by
  have e : Im.find l d = l.length := Im.find_eq (by omega) (fun j hj _ => h1 j hj) (fun h => absurd h (by omega))
  refine ⟨e, ?_⟩
  unfold Im.has
  rw [e, List.getElem?_eq_none (by omega)]
  rfl

set_option maxRecDepth 100000 in
theorem rfindI_any (A : Option Addr) (n c : Nat) (l : List Im.Rw) (d : Int) (w : World) (hl : RowsIn w A n c l) (hn : n ≤ 17592186044416) :
    Calls Try.prog 40 #[.agg #[.slice A n c], .int .i64 d] w fun e w' => e = .returned (.tuple #[.int .i64 (Im.find l d : Nat), .bool (Im.has l d)]) ∧ Below w.heap.size w w' := by
  have hln := hl.1
  obtain ⟨B, hB⟩ : ∃ B, w.heap.size = B := ⟨_, rfl⟩
  obtain ⟨w1, hw1⟩ : ∃ V, w.alloc (.cells #[.slice A n c] 25) = V := ⟨_, rfl⟩
  have hb1 : Below B w w1 := by rw [← hw1, ← hB]; exact (Below.refl _ _).alloc (Nat.le_refl _) _
  have hs1 : w1.heap.size = B + 1 := by rw [← hw1]; simp [hB]
  have hx1 : w1.heap[B]? = some (.cells #[.slice A n c] 25 (0, 0)) := by rw [← hw1, ← hB]; exact heap_alloc_new _ _
  have HL := Lib.hid hl
  have HLN := Lib.hid hln
  have HW1 := Lib.hid hw1
  have HB1 := Lib.hid hb1
  have HX1 := Lib.hid hx1
  have HBE := Lib.hid hB
  clear hl hw1 hb1 hx1 hln
  rw [hB]
  go_enter Try.func40, Try.ntmps40
  go_wp2_with fail
  rw [HW1.out]
  clear hB
  go_loopw [11] (fun i wr => ∃ k : Nat, k ≤ n ∧ i = .int .i64 k ∧ Below (B + 1) w1 wr ∧ ∀ j (hj : j < l.length), j < k → l[j].1 < d) (fun i _ => n - (intOf i).toNat)
  case atStart => exact ⟨0, by omega, rfl, Below.refl _ _, fun j _ h => absurd h (by omega)⟩
  case round =>
    obtain ⟨k, hk, rfl, hBr, hlow⟩ := hrel
    have hsz := hBr.size
    have hx0 : wr.heap[B]? = some (.cells #[.slice A n c] 25 (0, 0)) := (hBr.block B (by omega)).trans HX1.out
    have g3 : wr.cell? ⟨B, 0, none⟩ = some (.slice A n c) := by simp [World.cell?, hx0]
    by_cases hlt : k < n
    · have d8 : decide ((k : Int) < (n : Int)) = true := by simp; omega
      obtain ⟨g, o, rfl, hg, hzl, y0, y1, y2⟩ := HL.out.at hlt
      rw [HBE.out] at hg
      have hBw : Below B w wr := HB1.out.trans (hBr.mono (by omega))
      have z0 := (hBw.cell (p := ⟨g, o + k * 3, none⟩) hg).trans y0
      have z1 := (hBw.cell (p := ⟨g, o + k * 3 + 1, none⟩) hg).trans y1
      have z2 := (hBw.cell (p := ⟨g, o + k * 3 + 2, none⟩) hg).trans y2
      have hkl : k < l.length := by rw [HLN.out]; exact hlt
      obtain ⟨x, hx⟩ : ∃ x, l[k] = x := ⟨_, rfl⟩
      rw [hx] at z0 z1 z2
      obtain ⟨a, ct, s⟩ := x
      simp only at z0 z1 z2
      obtain ⟨S, hS⟩ : ∃ S, Cm.b s = S := ⟨_, rfl⟩
      rw [hS] at z2
      obtain ⟨nb, hnb⟩ : ∃ nb, wr.heap.size = nb := ⟨_, rfl⟩
      obtain ⟨wa, hwa⟩ : ∃ V, wr.alloc (.cells #[.int .i64 a, .int .i64 ct, .string S] 37) = V := ⟨_, rfl⟩
      have hna : wa.heap[nb]? = some (.cells #[.int .i64 a, .int .i64 ct, .string S] 37 (0, 0)) := by rw [← hwa, ← hnb]; exact heap_alloc_new _ _
      have hBa : Below (B + 1) w1 wa := by rw [← hwa]; exact hBr.alloc (by omega) _
      have g0 : wa.cell? ⟨nb, 0, none⟩ = some (.int .i64 a) := by simp [World.cell?, hna]
      have HWA := Lib.hid hwa
      have HBA := Lib.hid hBa
      have HLOW := Lib.hid hlow
      have HX := Lib.hid hx
      have HHK := Lib.hid hkl
      clear hwa hBa hlow hBr hBw y0 y1 y2 hx hS hna hx0 hzl hg
      by_cases c1 : d ≤ a
      · have e1 : decide (d ≤ a) = true := by simpa using c1
        have HF := Lib.hid (Im.has_at HHK.out HLOW.out (show d ≤ (l[k]'HHK.out).1 by rw [HX.out]; exact c1))
        obtain ⟨q, e7⟩ : ∃ q : Bool, (a == d) = q := ⟨_, rfl⟩
        have HQ := Lib.hid (show decide (a = d) = q by rw [← e7]; exact (Bool.beq_eq_decide_eq a d).symm)
        go_wp2_with fail
        rw [HWA.out]
        go_wp2_with fail
        go_region
        go_wp2_with fail
        refine bodyPost_ret (v := .tuple #[.int .i64 k, .bool q]) (by simp [results, Try.results40, go_sem]) rfl ⟨?_, (HB1.out.trans (HBA.out.mono (Nat.le_succ B))).drew⟩
        rw [HF.out.1, HF.out.2, HX.out, HQ.out]
      · have e1 : decide (d ≤ a) = false := by simpa using c1
        go_wp2_with fail
        rw [HWA.out]
        go_wp2_with fail
        go_roundw
        case rel =>
          refine ⟨k + 1, by omega, by go_num, HBA.out, fun j hj h => ?_⟩
          by_cases e : j = k
          · subst e
            rw [HX.out]; show a < d; omega
          · exact HLOW.out j hj (by omega)
        case measure => simp [intOf]; omega
    · obtain rfl : k = n := by omega
      have d8 : decide ((k : Int) < (k : Int)) = false := by simp
      have HF := Lib.hid (Im.has_out (l := l) (d := d) (fun j hj => hlow j hj (by rw [HLN.out] at hj; exact hj)))
      clear hlow
      go_wp2_with fail
      refine bodyPost_ret (v := .tuple #[.int .i64 k, .bool false]) (by simp [results, Try.results40, go_sem]) rfl ⟨?_, HB1.out.trans (hBr.mono (by omega))⟩
      rw [HF.out.1, HF.out.2, HLN.out]

end Go.Proofs.Ytmdakplaaehmnaa
