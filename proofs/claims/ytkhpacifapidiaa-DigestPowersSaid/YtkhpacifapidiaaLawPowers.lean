/-
  DigestPowers: its walk.
-/
import Derived.Test.YtkhpacifapidiaaDigB
namespace Go.Proofs.Ytkhpacifapidiaa
open Go.RowKit
set_option maxHeartbeats 1000000

set_option maxRecDepth 100000 in
theorem digestPowers_walk (m n : Int) (s : ByteArray) (a b x : Int) (w : World) (hm0 : 0 ≤ m) (hm1 : m ≤ 65535) (hn0 : 0 ≤ n) (hn1 : n ≤ 65535) (hs : s.size ≤ 140737488351232)
    (a0 : -9223372036854775808 ≤ a) (a1 : a ≤ 9223372036854775807) (b0 : -9223372036854775808 ≤ b) (b1 : b ≤ 9223372036854775807) (x0 : -9223372036854775808 ≤ x) (x1 : x ≤ 9223372036854775807) :
    Calls Try.prog 5 #[.int .u16 m, .int .u16 n, .string s, .int .i64 a, .int .i64 b, .int .i64 x] w fun e w' => e = .returned (.bool true) ∧ Below w.heap.size w w' := by
  obtain ⟨m, rfl⟩ := Int.eq_ofNat_of_zero_le hm0
  obtain ⟨n, rfl⟩ := Int.eq_ofNat_of_zero_le hn0
  obtain ⟨p, hp⟩ : ∃ p, Dm.pow m = p := ⟨_, rfl⟩
  obtain ⟨q, hq⟩ : ∃ q, Dm.pow n = q := ⟨_, rfl⟩
  obtain ⟨r, hr⟩ : ∃ r, Dm.pow ((m : Int) + n) = r := ⟨_, rfl⟩
  obtain ⟨c, hc⟩ : ∃ c, Dm.sum s.data.toList = c := ⟨_, rfl⟩
  obtain ⟨d, hd⟩ : ∃ d, Dm.join a b n = d := ⟨_, rfl⟩
  obtain ⟨f, hf⟩ : ∃ f, Dm.atx s.data.toList x = f := ⟨_, rfl⟩
  have bp := Dm.pow_lt m
  have bq := Dm.pow_lt n
  have br := Dm.pow_lt ((m : Int) + n)
  have bc := Dm.sum_lt s.data.toList
  have bd := Dm.join_lt a b n
  have bf := Dm.atx_lt s.data.toList x
  have hpq := Dm.pow_add m n
  have hpf := Dm.pow_full m
  rw [show (m : Int) + 2147483646 = (m : Int) + 2147483647 - 1 from by omega] at hpf
  rw [hp] at bp hpq hpf
  rw [hq] at bq hpq
  rw [hr] at br hpq
  rw [hc] at bc
  rw [hd] at bd
  rw [hf] at bf
  obtain ⟨v0, v1⟩ := Dm.prod bp.1 bp.2 bq.1 bq.2
  obtain ⟨v, hv⟩ : ∃ v, p * q = v := ⟨_, rfl⟩
  rw [hv] at v0 v1 hpq
  have gv : (v % 2147483647 == r) = true := by rw [hpq]; exact beq_self_eq_true _
  have P1 := Lib.hid (fun W => hp ▸ power_any m W (by omega) (by omega))
  have P2 := Lib.hid (fun W => hq ▸ power_any n W (by omega) (by omega))
  have P3 := Lib.hid (fun W => hr ▸ power_any (m + n) W (by omega) (by omega))
  have P4 := Lib.hid (fun W => hpf ▸ power_any (m + 2147483647 - 1) W (by omega) (by omega))
  have CS := Lib.hid (fun W => hc ▸ sum_any s W (by unfold maxLen; omega))
  have CJ := Lib.hid (fun W => hd ▸ join_any a b n W a0 a1 b0 b1 (by omega) (by omega))
  have CA := Lib.hid (fun W => hf ▸ at_any s x W (by unfold maxLen; omega) x0 x1)
  clear hp hq hr hc hd hf hpq hpf
  go_enter Try.func5, Try.ntmps5
  go_wp2_with fail
  refine (dsane_any _).mono ?_
  rintro e w' ⟨rfl, rfl⟩
  go_wp2_with (first | (go_at_call 10; first | ((with_reducible refine (P1.out _).mono ?_); rintro e w' ⟨rfl, rfl⟩) | ((with_reducible refine (P2.out _).mono ?_); rintro e w' ⟨rfl, rfl⟩) | ((with_reducible refine (P3.out _).mono ?_); rintro e w' ⟨rfl, rfl⟩)) | (go_at_call 14; refine (CS.out _).mono ?_; rintro e w' ⟨rfl, rfl⟩) | (go_at_call 12; refine (CJ.out _).mono ?_; rintro e w' ⟨rfl, rfl⟩) | (go_at_call 18; refine (CA.out _).mono ?_; rintro e w' ⟨rfl, rfl⟩))
  -- the six results
  obtain ⟨Z, hZl, hZb, hZ⟩ : ∃ Z : List Int, Z.length = 6 ∧ (∀ i (h : i < Z.length), 0 ≤ Z[i] ∧ Z[i] < 2147483647) ∧ ∀ i (h : i < Z.length), (w.alloc (.cells #[Value.int .i64 p, Value.int .i64 q, Value.int .i64 r, Value.int .i64 c, Value.int .i64 d, Value.int .i64 f] 3)).cell? ⟨w.heap.size, i, none⟩ = some (.int .i64 Z[i]) :=
    ⟨[p, q, r, c, d, f], rfl, (by
      intro i h
      have h6 : i < 6 := h
      rcases (show i = 0 ∨ i = 1 ∨ i = 2 ∨ i = 3 ∨ i = 4 ∨ i = 5 by omega) with rfl | rfl | rfl | rfl | rfl | rfl <;> assumption), new_ints w .i64 3 [p, q, r, c, d, f] w.heap.size rfl⟩
  have hs0 : (w.alloc (.cells #[Value.int .i64 p, Value.int .i64 q, Value.int .i64 r, Value.int .i64 c, Value.int .i64 d, Value.int .i64 f] 3)).heap.size = w.heap.size + 1 := by simp
  have hB0 : Below w.heap.size w (w.alloc (.cells #[Value.int .i64 p, Value.int .i64 q, Value.int .i64 r, Value.int .i64 c, Value.int .i64 d, Value.int .i64 f] 3)) := (Below.refl _ _).alloc (Nat.le_refl _) _
  generalize (w.alloc (.cells #[Value.int .i64 p, Value.int .i64 q, Value.int .i64 r, Value.int .i64 c, Value.int .i64 d, Value.int .i64 f] 3)) = W0 at hZ hs0 hB0 ⊢
  have HZ := Lib.hid hZ
  have HZl := Lib.hid hZl
  have HZb := Lib.hid hZb
  have HB0 := Lib.hid hB0
  have HS0 := Lib.hid hs0
  clear hZ hZl hZb hB0 hs0
  go_loopw [17, 47] (fun y i wr => ∃ k : Nat, k ≤ 6 ∧ i = .int .i64 k ∧ Below (w.heap.size + 1) W0 wr) (fun y i wr => 6 - (intOf i).toNat)
  case atStart => exact ⟨0, by omega, rfl, Below.refl _ _⟩
  case round =>
    obtain ⟨k, hk, rfl, hBr⟩ := hrel
    by_cases hlt : k < 6
    · have hcell := (hBr.cell (p := ⟨w.heap.size, k, none⟩) (by show w.heap.size < w.heap.size + 1; omega)).trans (HZ.out k (by rw [HZl.out]; exact hlt))
      have hyb := HZb.out k (by rw [HZl.out]; exact hlt)
      obtain ⟨y, hy⟩ : ∃ y, Z[k]'(by rw [HZl.out]; exact hlt) = y := ⟨_, rfl⟩
      rw [hy] at hcell hyb
      have y0 : decide (y < 0) = false := by simp; omega
      have y1 : decide (2147483647 ≤ y) = false := by simp; omega
      have HBr := Lib.hid hBr
      clear hy hyb hBr
      have d8 : decide ((k : Int) < 6) = true := by simp; omega
      go_wp2_with fail
      go_roundw
      case rel => exact ⟨k + 1, by omega, by go_num, HBr.out⟩
      case measure => simp [intOf]; omega
    · obtain rfl : k = 6 := by omega
      have HBr := Lib.hid hBr
      clear hBr
      have hs := HS0.out
      have HBz := Lib.hid (HB0.out.trans (HBr.out.mono (by omega)))
      clear HBr
      go_wp2_with (go_at_call 10; (with_reducible refine (P4.out _).mono ?_); rintro e w' ⟨rfl, rfl⟩)
      go_ret
      exact ⟨rfl, HBz.out⟩
end Go.Proofs.Ytkhpacifapidiaa
