/-
  RefsDoes' small.
-/
import Derived.Test.YtmdakplaaehmnaaRw
import Derived.Test.YtmdakplaaehmnaaChF
import Derived.Test.YtmdakplaaehmnaaId
namespace Go.Proofs.Ytmdakplaaehmnaa
open Go.RowKit
set_option maxHeartbeats 4000000

set_option maxRecDepth 100000 in
theorem small_any (A : Option Addr) (n c : Nat) (l : List Im.Rw) (w : World) (hl : RowsIn w A n c l) (hn : n ≤ 4398046511104) :
    Calls Try.prog 10 #[.agg #[.slice A n c]] w fun e w' => ∃ b : Bool, e = .returned (.bool b) ∧ Below w.heap.size w w' := by
  obtain ⟨B, hB⟩ : ∃ B, w.heap.size = B := ⟨_, rfl⟩
  obtain ⟨w1, hw1⟩ : ∃ V, w.alloc (.cells #[.slice A n c] 25) = V := ⟨_, rfl⟩
  have hb1 : Below B w w1 := by rw [← hw1, ← hB]; exact (Below.refl _ _).alloc (Nat.le_refl _) _
  have hs1 : w1.heap.size = B + 1 := by rw [← hw1]; simp [hB]
  have HL := Lib.hid hl
  have HW1 := Lib.hid hw1
  have HB1 := Lib.hid hb1
  have HBE := Lib.hid hB
  clear hl hw1 hb1
  rw [hB]
  go_enter Try.func10, Try.ntmps10
  go_wp2_with fail
  rw [HW1.out]
  clear hB
  go_loopw [3, 9] (fun s i wr => ∃ (k : Nat) (S : Int), k ≤ n ∧ i = .int .i64 k ∧ s = .int .i64 S ∧ Below (B + 1) w1 wr) (fun _ i _ => n - (intOf i).toNat)
  case atStart => exact ⟨0, 0, by omega, rfl, rfl, Below.refl _ _⟩
  case round =>
    obtain ⟨k, S, hk, rfl, rfl, hBr⟩ := hrel
    have hsz := hBr.size
    by_cases hlt : k < n
    · have d8 : decide ((k : Int) < (n : Int)) = true := by simp; omega
      obtain ⟨g, o, rfl, hg, hzl, y0, y1, y2⟩ := HL.out.at hlt
      rw [HBE.out] at hg
      have hBw : Below B w wr := HB1.out.trans (hBr.mono (by omega))
      have z0 := (hBw.cell (p := ⟨g, o + k * 3, none⟩) hg).trans y0
      have z1 := (hBw.cell (p := ⟨g, o + k * 3 + 1, none⟩) hg).trans y1
      have z2 := (hBw.cell (p := ⟨g, o + k * 3 + 2, none⟩) hg).trans y2
      obtain ⟨x, hx⟩ : ∃ x, l[k] = x := ⟨_, rfl⟩
      rw [hx] at z0 z1 z2
      obtain ⟨a, ct, s⟩ := x
      simp only at z0 z1 z2
      obtain ⟨T, hT⟩ : ∃ T, Cm.b s = T := ⟨_, rfl⟩
      rw [hT] at z2
      obtain ⟨nb, hnb⟩ : ∃ nb, wr.heap.size = nb := ⟨_, rfl⟩
      obtain ⟨wa, hwa⟩ : ∃ V, wr.alloc (.cells #[.int .i64 a, .int .i64 ct, .string T] 37) = V := ⟨_, rfl⟩
      have hna : wa.heap[nb]? = some (.cells #[.int .i64 a, .int .i64 ct, .string T] 37 (0, 0)) := by rw [← hwa, ← hnb]; exact heap_alloc_new _ _
      have g2 : wa.cell? ⟨nb, 2, none⟩ = some (.string T) := by simp [World.cell?, hna]
      have HBA := Lib.hid (show Below (B + 1) w1 wa from by rw [← hwa]; exact hBr.alloc (by omega) _)
      obtain ⟨S2, e1⟩ : ∃ S2, IntKind.i64.wrap (1 + (T.size : Int)) = S2 := ⟨_, rfl⟩
      obtain ⟨S3, e2⟩ : ∃ S3, IntKind.i64.wrap (S + S2) = S3 := ⟨_, rfl⟩
      have HWA := Lib.hid hwa
      clear hwa hBr hBw y0 y1 y2 hx hT hna hg hzl
      go_wp2_with fail
      rw [HWA.out]
      clear hnb
      go_wp2_with fail
      go_roundw
      case rel =>
        first
        | exact ⟨k + 1, _, by omega, by go_num, rfl, HBA.out⟩
        | ((repeat apply Exists.intro); exact ⟨⟨k + 1, _, by omega, by go_num, rfl, HBA.out⟩, rfl⟩)
      case measure => simp [intOf]; omega
    · obtain rfl : k = n := by omega
      have d8 : decide ((k : Int) < (k : Int)) = false := by simp
      have HBR := Lib.hid hBr
      clear hBr
      go_wp2_with fail
      go_ret
      exact ⟨_, rfl, HB1.out.trans (HBR.out.mono (by omega))⟩

end Go.Proofs.Ytmdakplaaehmnaa
