/-
  Contracts of seal and of its reference: keys, locks, what is valid.
-/
import Derived.Test.YtapmdneepinbgaaRefC
import Derived.Test.YtapmdneepinbgaaDigA
import Derived.Test.YtapmdneepinbgaaSm
namespace Go.Proofs.Ytapmdneepinbgaa
open Go.RowKit
set_option maxHeartbeats 400000

theorem Calls.quiet_same {P : Program} {f : FuncId} {args : Array Value} {w : World} {n : Nat} {v : Value}
    (h : Calls P f args (w.drewN n) fun e w' => e = .returned v ∧ w.drewN n = w') : Calls P f args (w.drewN n) fun e w'' => e = .returned v ∧ ∃ m, w'' = w.drewN m :=
  h.mono fun _ _ ⟨he, hm⟩ => ⟨he, n, hm.symm⟩
theorem Sm.ret_b {a b : Bool} (h : a = b) : Ending.returned (.bool a) = .returned (.bool b) := by rw [h]

theorem klock_any (k : Int) (w : World) (h0 : -2147483648 ≤ k) (h1 : k ≤ 8589934592) :
    Calls Try.prog 28 #[.int .i64 k] w fun e w' => e = .returned (.int .i64 (3 * k + 1)) ∧ w = w' := by
  go_enter Try.func28, Try.ntmps28
  go_wp2
  go_ret
  exact ⟨rfl, rfl⟩

theorem kvalid_any (k : Int) (w : World) (h0 : -9223372036854775808 ≤ k) (h1 : k ≤ 9223372036854775807) :
    Calls Try.prog 27 #[.int .i64 k] w fun e w' => e = .returned (.bool (Sm.keyB k)) ∧ w = w' := by
  by_cases g0 : 0 ≤ k
  · by_cases g1 : k ≤ 4294967293
    · rw [Sm.keyB_true g0 (by omega)]
      go_enter Try.func27, Try.ntmps27
      go_wp2
      go_ret
      exact ⟨rfl, rfl⟩
    · rw [Sm.keyB_false (by omega)]
      go_enter Try.func27, Try.ntmps27
      go_wp2
      go_ret
      exact ⟨rfl, rfl⟩
  · rw [Sm.keyB_false (by omega)]
    go_enter Try.func27, Try.ntmps27
    go_wp2
    go_ret
    exact ⟨rfl, rfl⟩

theorem rkey_any (k : Int) (w : World) (h0 : -9223372036854775808 ≤ k) (h1 : k ≤ 9223372036854775807) :
    Calls Try.prog 29 #[.int .i64 k] w fun e w' => e = .returned (.bool (Sm.keyB k)) ∧ w = w' := by
  by_cases g0 : 0 ≤ k
  · by_cases g1 : k < 4294967294
    · rw [Sm.keyB_true g0 (by omega)]
      go_enter Try.func29, Try.ntmps29
      go_wp2
      go_ret
      exact ⟨rfl, rfl⟩
    · rw [Sm.keyB_false (by omega)]
      go_enter Try.func29, Try.ntmps29
      go_wp2
      go_ret
      exact ⟨rfl, rfl⟩
  · rw [Sm.keyB_false (by omega)]
    go_enter Try.func29, Try.ntmps29
    go_wp2
    go_ret
    exact ⟨rfl, rfl⟩

theorem islock_any (n : Int) (w : World) (h0 : -9223372036854775808 ≤ n) (h1 : n ≤ 9223372036854775807) :
    Calls Try.prog 46 #[.int .i64 n] w fun e w' => e = .returned (.bool (Sm.lockB n)) ∧ w = w' := by
  by_cases g0 : 0 ≤ n
  · by_cases g1 : n ≤ 12884901880
    · by_cases g2 : n % 3 = 1
      · rw [show Sm.lockB n = true from decide_eq_true (by omega)]
        have g3 : (n % 3 == 1) = true := by rw [g2]; rfl
        go_enter Try.func46, Try.ntmps46
        go_wp2_with fail
        refine (klock_any 4294967293 _ (by decide) (by decide)).mono ?_
        rintro e w' ⟨rfl, rfl⟩
        go_wp2_with fail
        go_ret
        exact ⟨rfl, rfl⟩
      · rw [show Sm.lockB n = false from decide_eq_false (by omega)]
        have g3 : (n % 3 == 1) = false := beq_eq_false_iff_ne.2 g2
        go_enter Try.func46, Try.ntmps46
        go_wp2_with fail
        refine (klock_any 4294967293 _ (by decide) (by decide)).mono ?_
        rintro e w' ⟨rfl, rfl⟩
        go_wp2_with fail
        go_ret
        exact ⟨rfl, rfl⟩
    · rw [show Sm.lockB n = false from decide_eq_false (by omega)]
      go_enter Try.func46, Try.ntmps46
      go_wp2_with fail
      refine (klock_any 4294967293 _ (by decide) (by decide)).mono ?_
      rintro e w' ⟨rfl, rfl⟩
      go_wp2_with fail
      go_ret
      exact ⟨rfl, rfl⟩
  · rw [show Sm.lockB n = false from decide_eq_false (by omega)]
    go_enter Try.func46, Try.ntmps46
    go_wp2_with fail
    go_ret
    exact ⟨rfl, rfl⟩

theorem rlocks_any (n : Int) (w : World) (h0 : -9223372036854775808 ≤ n) (h1 : n ≤ 9223372036854775807) :
    Calls Try.prog 47 #[.int .i64 n] w fun e w' => e = .returned (.bool (Sm.lockB n)) ∧ w = w' := by
  by_cases g0 : 1 ≤ n
  · by_cases g2 : n % 3 = 1
    · have g3 : (n % 3 == 1) = true := by rw [g2]; rfl
      obtain ⟨q, hq⟩ : ∃ q, n / 3 = q := ⟨_, rfl⟩
      have hk : Sm.keyB q = Sm.lockB n := by
        unfold Sm.keyB Sm.lockB
        rw [decide_eq_decide]
        omega
      have q0 : -9223372036854775808 ≤ q := by omega
      have q1 : q ≤ 9223372036854775807 := by omega
      have HK := Lib.hid hk
      clear hk
      go_enter Try.func47, Try.ntmps47
      go_wp2_with fail
      refine (rkey_any q _ q0 q1).mono ?_
      rintro e w' ⟨rfl, rfl⟩
      rw [HK.out]
      go_wp2_with fail
      go_ret
      exact ⟨rfl, rfl⟩
    · rw [show Sm.lockB n = false from decide_eq_false (by omega)]
      have g3 : (n % 3 == 1) = false := beq_eq_false_iff_ne.2 g2
      go_enter Try.func47, Try.ntmps47
      go_wp2_with fail
      go_ret
      exact ⟨rfl, rfl⟩
  · rw [show Sm.lockB n = false from decide_eq_false (by omega)]
    go_enter Try.func47, Try.ntmps47
    go_wp2_with fail
    go_ret
    exact ⟨rfl, rfl⟩

theorem private_any (k : Int) (w : World) (h0 : -9223372036854775808 ≤ k) (h1 : k ≤ 9223372036854775807) :
    Calls Try.prog 10 #[.int .i64 k] w fun e w' => e = .returned (.tuple #[.int .i64 (Sm.priv k).1, .int .i64 (Sm.priv k).2]) ∧ w = w' := by
  by_cases g : 0 ≤ k ∧ k < 2147483647
  · rw [show Sm.priv k = (2 * k + 1, 0) from if_pos g]
    obtain ⟨g0, g1⟩ := g
    go_enter Try.func10, Try.ntmps10
    go_wp2
    go_ret2
    exact ⟨rfl, rfl⟩
  · rw [show Sm.priv k = (0, 1) from if_neg g]
    by_cases g0 : k < 0
    · clear g
      go_enter Try.func10, Try.ntmps10
      go_wp2
      go_ret2
      exact ⟨rfl, rfl⟩
    · have g1 : 2147483647 ≤ k := by omega
      clear g
      go_enter Try.func10, Try.ntmps10
      go_wp2
      go_ret2
      exact ⟨rfl, rfl⟩

theorem rprivate_any (k : Int) (w : World) (h0 : -9223372036854775808 ≤ k) (h1 : k ≤ 9223372036854775807) :
    Calls Try.prog 11 #[.int .i64 k] w fun e w' => e = .returned (.tuple #[.int .i64 (Sm.priv k).1, .int .i64 (Sm.priv k).2]) ∧ w = w' := by
  by_cases g : 0 ≤ k ∧ k < 2147483647
  · rw [show Sm.priv k = (2 * k + 1, 0) from if_pos g]
    obtain ⟨g0, g1⟩ := g
    go_enter Try.func11, Try.ntmps11
    go_wp2
    go_ret2
    exact ⟨rfl, rfl⟩
  · rw [show Sm.priv k = (0, 1) from if_neg g]
    by_cases g0 : k < 0
    · clear g
      go_enter Try.func11, Try.ntmps11
      go_wp2
      go_ret2
      exact ⟨rfl, rfl⟩
    · have g1 : 2147483647 ≤ k := by omega
      clear g
      go_enter Try.func11, Try.ntmps11
      go_wp2
      go_ret2
      exact ⟨rfl, rfl⟩

theorem lock_any (k : Int) (w : World) (h0 : -9223372036854775808 ≤ k) (h1 : k ≤ 9223372036854775807) :
    Calls Try.prog 12 #[.int .i64 k] w fun e w' => e = .returned (.tuple #[.int .i64 (Sm.lock k).1, .int .i64 (Sm.lock k).2]) ∧ w = w' := by
  by_cases g : Sm.keyB k = true
  · rw [show Sm.lock k = (3 * k + 1, 0) from if_pos g]
    obtain ⟨g0, g1⟩ := Sm.of_keyB g
    go_enter Try.func12, Try.ntmps12
    go_wp2_with fail
    refine (kvalid_any k _ h0 h1).mono ?_
    rintro e w' ⟨rfl, rfl⟩
    go_wp2_with (go_at_call 28; refine (klock_any k _ (by omega) (by omega)).mono ?_; rintro e w' ⟨rfl, rfl⟩)
    go_ret2
    exact ⟨rfl, rfl⟩
  · rw [show Sm.lock k = (0, 1) from if_neg g]
    have g : Sm.keyB k = false := by simpa using g
    go_enter Try.func12, Try.ntmps12
    go_wp2_with fail
    refine (kvalid_any k _ h0 h1).mono ?_
    rintro e w' ⟨rfl, rfl⟩
    go_wp2
    go_ret2
    exact ⟨rfl, rfl⟩

theorem rlock_any (k : Int) (w : World) (h0 : -9223372036854775808 ≤ k) (h1 : k ≤ 9223372036854775807) :
    Calls Try.prog 13 #[.int .i64 k] w fun e w' => e = .returned (.tuple #[.int .i64 (Sm.lock k).1, .int .i64 (Sm.lock k).2]) ∧ w = w' := by
  by_cases g : Sm.keyB k = true
  · rw [show Sm.lock k = (3 * k + 1, 0) from if_pos g]
    obtain ⟨g0, g1⟩ := Sm.of_keyB g
    go_enter Try.func13, Try.ntmps13
    go_wp2_with fail
    refine (rkey_any k _ h0 h1).mono ?_
    rintro e w' ⟨rfl, rfl⟩
    go_wp2
    go_ret2
    exact ⟨rfl, rfl⟩
  · rw [show Sm.lock k = (0, 1) from if_neg g]
    have g : Sm.keyB k = false := by simpa using g
    go_enter Try.func13, Try.ntmps13
    go_wp2_with fail
    refine (rkey_any k _ h0 h1).mono ?_
    rintro e w' ⟨rfl, rfl⟩
    go_wp2
    go_ret2
    exact ⟨rfl, rfl⟩

/-- a sealed text as a value -/
def Sm.sv (L : Int) (T : ByteArray) : Value := .agg #[.int .i64 L, .string T]

theorem valid_any (L : Int) (T : ByteArray) (w : World) (h0 : -9223372036854775808 ≤ L) (h1 : L ≤ 9223372036854775807) :
    Calls Try.prog 31 #[.agg #[.int .i64 L, .string T]] w fun e w' => e = .returned (.bool (Sm.valB L T)) ∧ Below w.heap.size w w' := by
  obtain ⟨b, hb⟩ : ∃ b, Sm.lockB L = b := ⟨_, rfl⟩
  cases b with
  | false =>
    rw [show Sm.valB L T = false by unfold Sm.valB; rw [hb]; rfl]
    go_enter Try.func31, Try.ntmps31
    go_wp2_with fail
    refine (islock_any L _ h0 h1).mono ?_
    rintro e w' ⟨rfl, rfl⟩
    go_wp2
    go_ret
    exact ⟨rfl, (Below.refl _ _).alloc (Nat.le_refl _) _⟩
  | true =>
    by_cases hT : T.size ≤ 16384
    · rw [Sm.valB_of hb hT]
      go_enter Try.func31, Try.ntmps31
      go_wp2_with fail
      refine (islock_any L _ h0 h1).mono ?_
      rintro e w' ⟨rfl, rfl⟩
      go_wp2
      go_ret
      exact ⟨Sm.ret_b (decide_eq_true (by omega)), (Below.refl _ _).alloc (Nat.le_refl _) _⟩
    · rw [Sm.valB_big (by omega)]
      go_enter Try.func31, Try.ntmps31
      go_wp2_with fail
      refine (islock_any L _ h0 h1).mono ?_
      rintro e w' ⟨rfl, rfl⟩
      go_wp2
      go_ret
      exact ⟨Sm.ret_b (decide_eq_false (by omega)), (Below.refl _ _).alloc (Nat.le_refl _) _⟩

theorem rvalid_any (L : Int) (T : ByteArray) (w : World) (h0 : -9223372036854775808 ≤ L) (h1 : L ≤ 9223372036854775807) :
    Calls Try.prog 33 #[.agg #[.int .i64 L, .string T]] w fun e w' => e = .returned (.bool (Sm.valB L T)) ∧ Below w.heap.size w w' := by
  obtain ⟨b, hb⟩ : ∃ b, Sm.lockB L = b := ⟨_, rfl⟩
  cases b with
  | false =>
    rw [show Sm.valB L T = false by unfold Sm.valB; rw [hb]; rfl]
    go_enter Try.func33, Try.ntmps33
    go_wp2_with fail
    refine (rlocks_any L _ h0 h1).mono ?_
    rintro e w' ⟨rfl, rfl⟩
    go_wp2
    go_ret
    exact ⟨rfl, (Below.refl _ _).alloc (Nat.le_refl _) _⟩
  | true =>
    by_cases hT : T.size ≤ 16384
    · rw [Sm.valB_of hb hT]
      go_enter Try.func33, Try.ntmps33
      go_wp2_with fail
      refine (rlocks_any L _ h0 h1).mono ?_
      rintro e w' ⟨rfl, rfl⟩
      go_wp2
      go_ret
      exact ⟨Sm.ret_b (decide_eq_true (by omega)), (Below.refl _ _).alloc (Nat.le_refl _) _⟩
    · rw [Sm.valB_big (by omega)]
      go_enter Try.func33, Try.ntmps33
      go_wp2_with fail
      refine (rlocks_any L _ h0 h1).mono ?_
      rintro e w' ⟨rfl, rfl⟩
      go_wp2
      go_ret
      exact ⟨Sm.ret_b (decide_eq_false (by omega)), (Below.refl _ _).alloc (Nat.le_refl _) _⟩

theorem opens_any (k L : Int) (T : ByteArray) (w : World) (h0 : 0 ≤ k) (h1 : k < 4294967294) :
    Calls Try.prog 32 #[.int .i64 k, .agg #[.int .i64 L, .string T]] w fun e w' => e = .returned (.bool (3 * k + 1 == L)) ∧ Below w.heap.size w w' := by
  have b0 : -2147483648 ≤ k := by omega
  have b1 : k ≤ 8589934592 := by omega
  go_enter Try.func32, Try.ntmps32
  go_wp2_with fail
  go_quiet ((go_at_call 28; exact Calls.quiet_same (klock_any k _ b0 b1)))
  go_wp2
  go_ret
  exact ⟨rfl, (((Below.refl _ w).alloc (Nat.le_refl _) _)).trans ⟨rfl, rfl, rfl, Nat.le_refl _, fun _ _ => rfl⟩⟩

end Go.Proofs.Ytapmdneepinbgaa
