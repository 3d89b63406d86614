/-
  Contracts of digest and of its reference, but for Of.
-/
import Derived.Test.YtmdakplaaehmnaaRows
import Derived.Test.YtmdakplaaehmnaaDm
import Derived.Test.YtmdakplaaehmnaaKit
import Derived.Test.YtmdakplaaehmnaaMod
import Derived.Laws.Bits64
import Derived.Laws.Bits64b
import Derived.Laws.BitsLemmas
import Derived.IntWalk
namespace Go.Proofs.Ytmdakplaaehmnaa
open Go.RowKit
set_option maxHeartbeats 400000

theorem reduce_any (n : Int) (w : World) (h0 : -9223372036854775808 ≤ n) (h1 : n ≤ 9223372036854775807) :
    Calls Try.prog 29 #[.int .i64 n] w fun e w' => e = .returned (.int .i64 (n % 2147483647)) ∧ w = w' := by
  by_cases hn : 0 ≤ n
  · go_enter Try.func29, Try.ntmps29
    go_wp2
    go_ret
    exact ⟨rfl, rfl⟩
  · have ht : n.tmod 2147483647 = -(-n % 2147483647) := by
      rw [← Int.tmod_eq_emod_of_nonneg (show 0 ≤ -n by omega), Int.neg_tmod, Int.neg_neg]
    obtain ⟨m, hm⟩ : ∃ m, n.tmod 2147483647 = m := ⟨_, rfl⟩
    have hz : (m < 0 → m + 2147483647 = n % 2147483647) ∧ (¬ m < 0 → m = n % 2147483647) ∧ m ≤ 0 ∧ -2147483647 < m := by omega
    have HZ := Lib.hid hz
    have m0 := hz.2.2.1
    have m1 := hz.2.2.2
    clear hz ht
    by_cases hm0 : m < 0
    · go_enter Try.func29, Try.ntmps29
      go_wp2
      go_ret
      exact ⟨Dm.ret (HZ.out.1 hm0), rfl⟩
    · go_enter Try.func29, Try.ntmps29
      go_wp2
      go_ret
      exact ⟨Dm.ret (HZ.out.2.1 hm0), rfl⟩

theorem term_any (b : Nat) (w : World) (h1 : b < 256) :
    Calls Try.prog 30 #[.int .u8 b] w fun e w' => e = .returned (.int .i64 ((b : Int) + 1)) ∧ w = w' := by
  go_enter Try.func30, Try.ntmps30
  go_wp2
  go_ret
  exact ⟨rfl, rfl⟩

theorem bits_and_one_i64 (k : Nat) (h : k ≤ 9223372036854775807) : bits .and .i64 (k : Int) 1 = (k : Int) % 2 := by
  have h1 : (BitVec.ofInt 64 (k : Int)).toNat = k := by
    rw [BitVec.ofInt_natCast, BitVec.toNat_ofNat]; exact Nat.mod_eq_of_lt (by omega)
  have h2 : (BitVec.ofInt 64 (1 : Int)).toNat = 1 := by decide
  show IntKind.i64.wrap ((BitVec.ofInt 64 (k : Int) &&& BitVec.ofInt 64 (1 : Int)).toNat : Int) = _
  rw [BitVec.toNat_and, h1, h2, Nat.and_one_is_mod, IntWalk.i64_in _ (by omega)]
  omega

/-- products of two numbers below the prime -/
theorem Dm.prod {a b : Int} (a0 : 0 ≤ a) (a1 : a < 2147483647) (b0 : 0 ≤ b) (b1 : b < 2147483647) : 0 ≤ a * b ∧ a * b ≤ 4611686009837453316 := by
  refine ⟨Int.mul_nonneg a0 b0, ?_⟩
  have h := Int.mul_le_mul (show a ≤ 2147483646 by omega) (show b ≤ 2147483646 by omega) b0 (by omega)
  omega

/-- a step's sum fits -/
theorem Dm.base {d : Int} (d0 : 0 ≤ d) (d1 : d < 2147483647) : 0 ≤ d * 1000003 ∧ d * 1000003 ≤ 2147490088942938 := by omega

theorem sum_any (s : ByteArray) (w : World) (hs : s.size ≤ maxLen) :
    Calls Try.prog 13 #[.string s] w fun e w' => e = .returned (.int .i64 (Dm.sum s.data.toList)) ∧ w = w' := by
  unfold maxLen at hs
  have hlen : s.data.toList.length = s.size := by simp
  have HL := Lib.hid hlen
  clear hlen
  go_enter Try.func13, Try.ntmps13
  go_wp2
  go_loop [3, 4, 7] (fun d i j => ∃ k : Nat, k ≤ s.size ∧ j = .int .i64 k ∧ d = .int .i64 (Dm.sum (s.data.toList.take k))) (fun d i j => s.size - (intOf j).toNat)
  case atStart => exact ⟨0, by omega, rfl, rfl⟩
  case round =>
    obtain ⟨k, hk, rfl, rfl⟩ := hrel
    by_cases hlt : k < s.size
    · obtain ⟨D, hD⟩ : ∃ D, Dm.sum (s.data.toList.take k) = D := ⟨_, rfl⟩
      obtain ⟨B, hB⟩ : ∃ B : Nat, (s[k]'hlt).toNat = B := ⟨_, rfl⟩
      have hB1 : B < 256 := by rw [← hB]; exact (s[k]'hlt).toNat_lt
      have hd := Dm.sum_lt (s.data.toList.take k)
      have ht := Dm.sum_take s.data.toList k (by rw [HL.out]; exact hlt) D hD.symm
      rw [show (s.data.toList[k]'(by rw [HL.out]; exact hlt)).toNat = B from hB] at ht
      rw [hD] at hd ⊢
      obtain ⟨p0, p1⟩ := Dm.base hd.1 hd.2
      have HT := Lib.hid ht
      have hbt : ∀ h : k < s.size, (s[k]'h).toNat = B := fun _ => hB
      obtain ⟨T, hT⟩ : ∃ T, D * 1000003 = T := ⟨_, rfl⟩
      rw [hT] at p0 p1 ht
      have HN := Lib.hid ht
      clear ht hD hd HT hB
      go_wp2_with (first | (go_at_call 29; refine (reduce_any _ _ (by omega) (by omega)).mono ?_; rintro e w' ⟨rfl, rfl⟩) | (go_at_call 30; refine (term_any _ _ (by omega)).mono ?_; rintro e w' ⟨rfl, rfl⟩))
      go_round
      case rel => exact ⟨k + 1, by omega, by go_num, by rw [← HN.out]⟩
      case measure => simp [intOf]; omega
    · obtain rfl : k = s.size := by omega
      go_wp2
      go_ret
      exact ⟨Dm.ret (by rw [List.take_of_length_le (by rw [HL.out]; omega)]), rfl⟩

theorem rsum_any (s : ByteArray) (w : World) (hs : s.size ≤ maxLen) :
    Calls Try.prog 33 #[.string s] w fun e w' => e = .returned (.int .i64 (Dm.sum s.data.toList)) ∧ w = w' := by
  unfold maxLen at hs
  have hlen : s.data.toList.length = s.size := by simp
  have HL := Lib.hid hlen
  clear hlen
  go_enter Try.func33, Try.ntmps33
  go_wp2
  go_loop [3, 4] (fun d j => ∃ k : Nat, k ≤ s.size ∧ j = .int .i64 k ∧ d = .int .i64 (Dm.sum (s.data.toList.take k))) (fun d j => s.size - (intOf j).toNat)
  case atStart => exact ⟨0, by omega, rfl, rfl⟩
  case round =>
    obtain ⟨k, hk, rfl, rfl⟩ := hrel
    by_cases hlt : k < s.size
    · obtain ⟨D, hD⟩ : ∃ D, Dm.sum (s.data.toList.take k) = D := ⟨_, rfl⟩
      obtain ⟨B, hB⟩ : ∃ B : Nat, (s[k]'hlt).toNat = B := ⟨_, rfl⟩
      have hB1 : B < 256 := by rw [← hB]; exact (s[k]'hlt).toNat_lt
      have hd := Dm.sum_lt (s.data.toList.take k)
      have ht := Dm.sum_take s.data.toList k (by rw [HL.out]; exact hlt) D hD.symm
      rw [show (s.data.toList[k]'(by rw [HL.out]; exact hlt)).toNat = B from hB] at ht
      rw [hD] at hd ⊢
      obtain ⟨p0, p1⟩ := Dm.base hd.1 hd.2
      have HT := Lib.hid ht
      have hbt : ∀ h : k < s.size, (s[k]'h).toNat = B := fun _ => hB
      obtain ⟨T, hT⟩ : ∃ T, D * 1000003 = T := ⟨_, rfl⟩
      rw [hT] at p0 p1 ht
      have HN := Lib.hid ht
      clear ht hD hd HT hB
      go_wp2
      go_round
      case rel => exact ⟨k + 1, by omega, by go_num, by rw [← HN.out]; go_num⟩
      case measure => simp [intOf]; omega
    · obtain rfl : k = s.size := by omega
      go_wp2
      go_ret
      exact ⟨Dm.ret (by rw [List.take_of_length_le (by rw [HL.out]; omega)]), rfl⟩
end Go.Proofs.Ytmdakplaaehmnaa
