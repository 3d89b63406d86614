/-
  Contract of the statements' package's Mod.
-/
import Derived.Test.YthdkidiemhfffaaRows
import Derived.Test.YthdkidiemhfffaaKit
import Derived.Laws.Bits64
import Derived.Laws.Bits64b
import Derived.Laws.BitsLemmas
import Derived.IntWalk
namespace Go.Proofs.Ythdkidiemhfffaa
open Go.RowKit
set_option maxHeartbeats 400000

theorem Dm.ret {a b : Int} (h : a = b) : Ending.returned (.int .i64 a) = .returned (.int .i64 b) := by rw [h]

/-- the remainder of the statements' package, the second number positive and not too great -/
theorem mkMod_any (a b : Int) (w : World) (h0 : -9223372036854775808 ≤ a) (h1 : a ≤ 9223372036854775807) (b0 : 1 ≤ b) (b1 : b ≤ 4611686018427387903) :
    Calls Try.prog 21 #[.int .i64 a, .int .i64 b] w fun e w' => e = .returned (.int .i64 (a % b)) ∧ w = w' := by
  have hz : -b < a.tmod b ∧ a.tmod b < b ∧ (a.tmod b + b) % b = a % b := by
    by_cases hn : 0 ≤ a
    · rw [Int.tmod_eq_emod_of_nonneg hn]
      have := Int.emod_nonneg a (show b ≠ 0 by omega)
      have := Int.emod_lt_of_pos a (show 0 < b by omega)
      refine ⟨by omega, by omega, ?_⟩
      rw [Int.add_emod_right, Int.emod_emod_of_dvd _ (Int.dvd_refl _)]
    · have ht : a.tmod b = -(-a % b) := by
        rw [← Int.tmod_eq_emod_of_nonneg (show 0 ≤ -a by omega), Int.neg_tmod, Int.neg_neg]
      have := Int.emod_nonneg (-a) (show b ≠ 0 by omega)
      have := Int.emod_lt_of_pos (-a) (show 0 < b by omega)
      rw [ht]
      refine ⟨by omega, by omega, ?_⟩
      rw [Int.add_emod_right]
      have hd : -(-a % b) = a + b * (-a / b) := by have := Int.mul_ediv_add_emod (-a) b; omega
      rw [hd, Int.add_mul_emod_self_left]
  obtain ⟨m, hm⟩ : ∃ m, a.tmod b = m := ⟨_, rfl⟩
  rw [hm] at hz
  have m0 : -b < m := hz.1
  have m1 : m < b := hz.2.1
  have HZ := Lib.hid (show m % b = a % b by rw [← hz.2.2, Int.add_emod_right])
  have HZ2 := Lib.hid hz.2.2
  have m2 : 0 ≤ m + b := by omega
  have m3 : m + b ≤ 9223372036854775807 := by omega
  clear hz
  have g0 : (b == 0) = false := by simp; omega
  by_cases hn : 0 ≤ a
  · rw [Int.tmod_eq_emod_of_nonneg hn] at hm
    go_enter Try.func21, Try.ntmps21
    go_wp2
    go_ret
    exact ⟨Dm.ret (by first | exact HZ.out | exact HZ2.out), rfl⟩
  · go_enter Try.func21, Try.ntmps21
    go_wp2
    go_ret
    exact ⟨Dm.ret (by first | exact HZ.out | exact HZ2.out), rfl⟩

end Go.Proofs.Ythdkidiemhfffaa
