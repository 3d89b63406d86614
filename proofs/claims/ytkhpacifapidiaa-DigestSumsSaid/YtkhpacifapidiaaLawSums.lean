/-
  DigestSums: its walk.
-/
import Derived.Test.YtkhpacifapidiaaDigB
namespace Go.Proofs.Ytkhpacifapidiaa
open Go.RowKit
set_option maxHeartbeats 1000000

set_option maxRecDepth 100000 in
theorem digestSums_walk (s : ByteArray) (A : Option Addr) (m c : Nat) (z : List Int) (a b n x : Int) (w : World) (hs : s.size ≤ 140737488351232) (hz : IntsIn .i64 w A m c z) (hcc : c * Try.prog.bytesOf 3 ≤ 140737488351232)
    (a0 : -9223372036854775808 ≤ a) (a1 : a ≤ 9223372036854775807) (b0 : -9223372036854775808 ≤ b) (b1 : b ≤ 9223372036854775807) (n0 : -9223372036854775808 ≤ n) (n1 : n ≤ 9223372036854775807) (x0 : -9223372036854775808 ≤ x) (x1 : x ≤ 9223372036854775807) :
    Calls Try.prog 3 #[.string s, .slice A m c, .int .i64 a, .int .i64 b, .int .i64 n, .int .i64 x] w fun e w' => e = .returned (.bool true) ∧ Below w.heap.size w w' := by
  have hmc := hz.2.1
  have hb8 : Try.prog.bytesOf 3 = 8 := by kernel_rfl
  rw [hb8] at hcc
  have hm : m ≤ 17592186044000 := by omega
  clear hb8 hcc
  have HZ := Lib.hid hz
  clear hz
  by_cases hbig : 5000 < s.size
  · go_enter Try.func3, Try.ntmps3
    go_wp2_with fail
    refine (dsane_any _).mono ?_
    rintro e w' ⟨rfl, rfl⟩
    go_wp2_with fail
    go_ret
    exact ⟨rfl, Below.refl _ _⟩
  · by_cases hbig2 : 1000 < m
    · have d1 : decide ((5000 : Int) < (s.size : Int)) = false := by simp; omega
      go_enter Try.func3, Try.ntmps3
      go_wp2_with fail
      refine (dsane_any _).mono ?_
      rintro e w' ⟨rfl, rfl⟩
      go_wp2_with fail
      go_ret
      exact ⟨rfl, Below.refl _ _⟩
    · have d1 : decide ((5000 : Int) < (s.size : Int)) = false := by simp; omega
      have d2 : decide ((1000 : Int) < (m : Int)) = false := by simp; omega
      have d2' : decide (1000 < m) = false := by simp; omega
      obtain ⟨j, hj⟩ : ∃ j, n % 5000 = j := ⟨_, rfl⟩
      have j0 : 0 ≤ j := by omega
      have j1 : j < 5000 := by omega
      have CM := Lib.hid (fun W => hj ▸ mkMod_any n 5000 W n0 n1 (by decide) (by decide))
      clear hj
      go_enter Try.func3, Try.ntmps3
      go_wp2_with fail
      refine (dsane_any _).mono ?_
      rintro e w' ⟨rfl, rfl⟩
      go_wp2_with fail
      refine (CM.out _).mono ?_
      rintro e w' ⟨rfl, rfl⟩
      go_wp2_with fail
      obtain ⟨Z, hZl, hZb, hZ⟩ : ∃ Z : List Int, Z.length = 2 ∧ (∀ i (h : i < Z.length), -9223372036854775808 ≤ Z[i] ∧ Z[i] ≤ 9223372036854775807) ∧ ∀ i (h : i < Z.length), (w.alloc (.cells #[Value.int .i64 n, Value.int .i64 j] 3)).cell? ⟨w.heap.size, i, none⟩ = some (.int .i64 Z[i]) :=
        ⟨[n, j], rfl, (by
          intro i h
          have h2 : i < 2 := h
          rcases (show i = 0 ∨ i = 1 by omega) with rfl | rfl
          · exact ⟨n0, n1⟩
          · exact ⟨show _ ≤ j by omega, show j ≤ _ by omega⟩), new_ints w .i64 3 [n, j] w.heap.size rfl⟩
      have hs0 : (w.alloc (.cells #[Value.int .i64 n, Value.int .i64 j] 3)).heap.size = w.heap.size + 1 := by simp
      have hB0 : Below w.heap.size w (w.alloc (.cells #[Value.int .i64 n, Value.int .i64 j] 3)) := (Below.refl _ _).alloc (Nat.le_refl _) _
      generalize (w.alloc (.cells #[Value.int .i64 n, Value.int .i64 j] 3)) = W0 at hZ hs0 hB0 ⊢
      have HZ0 := Lib.hid hZ
      have HZl := Lib.hid hZl
      have HZb := Lib.hid hZb
      have HB0 := Lib.hid hB0
      have HS0 := Lib.hid hs0
      clear hZ hZl hZb hB0 hs0
      go_loopw [14, 30] (fun y i wr => ∃ k : Nat, k ≤ 2 ∧ i = .int .i64 k ∧ Below (w.heap.size + 1) W0 wr) (fun y i wr => 2 - (intOf i).toNat)
      case atStart => exact ⟨0, by omega, rfl, Below.refl _ _⟩
      case round =>
        obtain ⟨k, hk, rfl, hBr⟩ := hrel
        by_cases hlt : k < 2
        · have hcell := (hBr.cell (p := ⟨w.heap.size, k, none⟩) (by show w.heap.size < w.heap.size + 1; omega)).trans (HZ0.out k (by rw [HZl.out]; exact hlt))
          have hyb := HZb.out k (by rw [HZl.out]; exact hlt)
          obtain ⟨y, hy⟩ : ∃ y, Z[k]'(by rw [HZl.out]; exact hlt) = y := ⟨_, rfl⟩
          rw [hy] at hcell hyb
          obtain ⟨y0, y1⟩ := hyb
          have HBr := Lib.hid hBr
          clear hy hBr
          have d8 : decide ((k : Int) < 2) = true := by simp; omega
          go_wp2_with fail
          refine (power_any _ _ y0 y1).mono ?_
          rintro e w' ⟨rfl, rfl⟩
          go_wp2_with fail
          refine (rpower_any _ _ y0 y1).mono ?_
          rintro e w' ⟨rfl, rfl⟩
          go_wp2_with fail
          refine (join_any _ _ _ _ a0 a1 b0 b1 y0 y1).mono ?_
          rintro e w' ⟨rfl, rfl⟩
          go_wp2_with fail
          refine (rjoin_any _ _ _ _ a0 a1 b0 b1 y0 y1).mono ?_
          rintro e w' ⟨rfl, rfl⟩
          go_wp2_with fail
          go_roundw
          case rel => exact ⟨k + 1, by omega, by go_num, HBr.out⟩
          case measure => simp [intOf]; omega
        · obtain rfl : k = 2 := by omega
          have hs := HS0.out
          have HBz := Lib.hid (HB0.out.trans (hBr.mono (by omega)))
          have HZw := Lib.hid (HZ.out.below HBz.out)
          clear hBr hs HZ
          go_wp2_with fail
          refine (sum_any s _ (by unfold maxLen; omega)).mono ?_
          rintro e w' ⟨rfl, rfl⟩
          go_wp2_with fail
          refine (rsum_any s _ (by unfold maxLen; omega)).mono ?_
          rintro e w' ⟨rfl, rfl⟩
          go_wp2_with fail
          refine (of_any A m c z _ HZw.out (by omega)).mono ?_
          rintro e w2 ⟨rfl, hB2⟩
          have HB2 := Lib.hid (HBz.out.trans (hB2.mono HBz.out.size))
          have HZ2 := Lib.hid (HZw.out.below hB2)
          clear hB2
          go_wp2_with fail
          refine (rof_any A m c z _ HZ2.out (by omega)).mono ?_
          rintro e w3 ⟨rfl, hB3⟩
          have HB3 := Lib.hid (HB2.out.trans (hB3.mono HB2.out.size))
          clear hB3
          go_wp2_with fail
          refine (at_any s x _ (by unfold maxLen; omega) x0 x1).mono ?_
          rintro e w' ⟨rfl, rfl⟩
          go_wp2_with fail
          refine (rat_any s x _ (by unfold maxLen; omega) x0 x1).mono ?_
          rintro e w' ⟨rfl, rfl⟩
          go_wp2_with fail
          have r0 : -9223372036854775808 ≤ wrap64 (x + 2147483647) := by unfold wrap64; omega
          have r1 : wrap64 (x + 2147483647) ≤ 9223372036854775807 := by unfold wrap64; omega
          refine (at_any s _ _ (by unfold maxLen; omega) r0 r1).mono ?_
          rintro e w' ⟨rfl, rfl⟩
          go_wp2_with fail
          refine (rat_any s _ _ (by unfold maxLen; omega) r0 r1).mono ?_
          rintro e w' ⟨rfl, rfl⟩
          go_wp2_with fail
          go_ret
          exact ⟨rfl, HB3.out⟩
end Go.Proofs.Ytkhpacifapidiaa
