/-
  Contracts of wire's and the reference's Int, fold, unfold.
-/
import Derived.Test.YtkhpacifapidiaaRows
import Derived.Test.YtkhpacifapidiaaWm
import Derived.WalkKit
import Derived.Handy
import Derived.BigQuiet
import Derived.Deep.QuietTactic
import Derived.Lib.Hide
import Derived.Laws.Bits64
import Derived.Laws.Bits64b
import Derived.Laws.BitsLemmas
namespace Go.Proofs.Ytkhpacifapidiaa
open Go.RowKit
set_option maxHeartbeats 400000

namespace Wm
theorem xor_max (x : Int) (h0 : 0 ≤ x) (h : x < 18446744073709551616) : bits .xor .u64 IntKind.u64.max x = 18446744073709551615 - x := by
  obtain ⟨x, rfl⟩ := Int.eq_ofNat_of_zero_le h0
  have h' : x < 18446744073709551616 := by omega
  have e : IntKind.u64.max = ((18446744073709551615 : Nat) : Int) := by decide
  have h2 : 18446744073709551615 ^^^ x = 18446744073709551615 - x := by
    have hb : (BitVec.allOnes 64 ^^^ BitVec.ofNat 64 x).toNat = (~~~ (BitVec.ofNat 64 x)).toNat := by
      rw [BitVec.allOnes_xor]
    have h3 : x % 2 ^ 64 = x := Nat.mod_eq_of_lt (by omega)
    rw [BitVec.toNat_xor, BitVec.toNat_not, BitVec.toNat_allOnes, BitVec.toNat_ofNat, h3] at hb
    simpa using hb
  rw [e, bits_xor_u64_nat _ _ (by decide) h', h2]
  omega
theorem ret_int {k : IntKind} {a b : Int} (h : a = b) : Ending.returned (.int k a) = .returned (.int k b) := by rw [h]
theorem D_step (s : List UInt8) (k i u : Nat) (h : k < s.length) (B : Nat) (hB : (s[k]'h).toNat = B) :
    D (s.drop k) i u k = if i = 9 ∧ 1 < B then (0, 0, 2) else if 128 ≤ B then D (s.drop (k + 1)) (i + 1) (u + (B - 128) * 2 ^ (7 * i)) (k + 1)
      else if B = 0 ∧ 0 < i then (0, 0, 2) else (unzz (u + B * 2 ^ (7 * i)), (k : Int) + 1, 0) := by
  rw [List.drop_eq_getElem_cons h, D, hB]
theorem D_end (s : List UInt8) (k i u : Nat) (h : s.length ≤ k) : D (s.drop k) i u k = (0, 0, 3) := by
  rw [List.drop_eq_nil_of_le h, D]
/-- groups join -/
theorem join (U X I : Nat) (hI : I ≤ 9) (hU : U < 2 ^ (7 * I)) (hX : X * 2 ^ (7 * I) < 18446744073709551616) :
    bits .or .u64 (U : Int) (IntKind.u64.wrap ((X : Int) * 2 ^ (7 * I))) = ((U + X * 2 ^ (7 * I) : Nat) : Int) ∧ U + X * 2 ^ (7 * I) < 18446744073709551616 := by
  have e : ((X : Int) * 2 ^ (7 * I)) = ((X * 2 ^ (7 * I) : Nat) : Int) := by simp
  have ew : IntKind.u64.wrap ((X : Int) * 2 ^ (7 * I)) = ((X * 2 ^ (7 * I) : Nat) : Int) := by
    rw [e, IntKind.wrap_u64]; omega
  have hU' : U < 18446744073709551616 := by
    have : 2 ^ (7 * I) ≤ 2 ^ 63 := Nat.pow_le_pow_right (by decide) (by omega)
    omega
  have ej : U ||| X * 2 ^ (7 * I) = U + X * 2 ^ (7 * I) := by
    rw [Nat.or_comm, Nat.mul_comm, ← Nat.two_pow_add_eq_or_of_lt hU, Nat.add_comm]
  rw [ew, bits_or_u64_nat _ _ hU' hX, ej]
  refine ⟨rfl, ?_⟩
  rw [← ej]
  exact Nat.or_lt_two_pow (n := 64) (by simpa using hU') (by simpa using hX)
end Wm

/-- fold -/
theorem fold_any (n : Int) (w : World) (h0 : -9223372036854775808 ≤ n) (h1 : n ≤ 9223372036854775807) :
    Calls Try.prog 29 #[.int .i64 n] w fun e w' => e = .returned (.int .u64 (Wm.zz n)) ∧ w = w' := by
  have hz1 : n < 0 → bits .xor .u64 IntKind.u64.max (IntKind.u64.wrap (IntKind.u64.wrap n * 2)) = Wm.zz n := fun hn => by
    rw [Wm.xor_max _ (by rw [IntKind.wrap_u64]; omega) (by rw [IntKind.wrap_u64]; omega)]
    unfold Wm.zz; rw [if_neg (by omega), IntKind.wrap_u64, IntKind.wrap_u64]; omega
  have hz2 : ¬ n < 0 → n * 2 = Wm.zz n := fun hn => by
    unfold Wm.zz; rw [if_pos (by omega)]; omega
  by_cases hn : n < 0
  · have HZ := Lib.hid (hz1 hn); clear hz1 hz2
    go_enter Try.func29, Try.ntmps29
    go_wp2
    go_ret
    exact ⟨Wm.ret_int HZ.out, rfl⟩
  · have HZ := Lib.hid (hz2 hn); clear hz1 hz2
    go_enter Try.func29, Try.ntmps29
    go_wp2
    go_ret
    exact ⟨Wm.ret_int HZ.out, rfl⟩

/-- what Int answers, as a value -/
def Wm.val (r : Int × Int × Int) : Value := .tuple #[.int .i64 r.1, .int .i64 r.2.1, .int .i64 r.2.2]

end Go.Proofs.Ytkhpacifapidiaa
