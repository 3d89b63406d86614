/-
  Contracts of wire's and the reference's Int, fold, unfold.
-/
import Derived.Test.YtebkgndcgcdogaaRows
import Derived.Test.YtebkgndcgcdogaaWm
import Derived.WalkKit
import Derived.Handy
import Derived.BigQuiet
import Derived.Deep.QuietTactic
import Derived.Lib.Hide
import Derived.Laws.Bits64
import Derived.Laws.Bits64b
import Derived.Laws.BitsLemmas
namespace Go.Proofs.Ytebkgndcgcdogaa
open Go.RowKit
set_option maxHeartbeats 400000

namespace Wm
theorem xor_max (x : Int) (h0 : 0 ≤ x) (h : x < 18446744073709551616) : bits .xor .u64 IntKind.u64.max x = 18446744073709551615 - x := by
  obtain ⟨x, rfl⟩ := Int.eq_ofNat_of_zero_le h0
  have h' : x < 18446744073709551616 := by omega
  have e : IntKind.u64.max = ((18446744073709551615 : Nat) : Int) := by decide
  have h2 : 18446744073709551615 ^^^ x = 18446744073709551615 - x := by
    have hb : (BitVec.allOnes 64 ^^^ BitVec.ofNat 64 x).toNat = (~~~ (BitVec.ofNat 64 x)).toNat := by
      rw [BitVec.allOnes_xor]
    have h3 : x % 2 ^ 64 = x := Nat.mod_eq_of_lt (by omega)
    rw [BitVec.toNat_xor, BitVec.toNat_not, BitVec.toNat_allOnes, BitVec.toNat_ofNat, h3] at hb
    simpa using hb
  rw [e, bits_xor_u64_nat _ _ (by decide) h', h2]
  omega
theorem ret_int {k : IntKind} {a b : Int} (h : a = b) : Ending.returned (.int k a) = .returned (.int k b) := by rw [h]
theorem D_step (s : List UInt8) (k i u : Nat) (h : k < s.length) (B : Nat) (hB : (s[k]'h).toNat = B) :
    D (s.drop k) i u k = if i = 9 ∧ 1 < B then (0, 0, 2) else if 128 ≤ B then D (s.drop (k + 1)) (i + 1) (u + (B - 128) * 2 ^ (7 * i)) (k + 1)
      else if B = 0 ∧ 0 < i then (0, 0, 2) else (unzz (u + B * 2 ^ (7 * i)), (k : Int) + 1, 0) := by
  rw [List.drop_eq_getElem_cons h, D, hB]
theorem D_end (s : List UInt8) (k i u : Nat) (h : s.length ≤ k) : D (s.drop k) i u k = (0, 0, 3) := by
  rw [List.drop_eq_nil_of_le h, D]
/-- groups join -/
theorem join (U X I : Nat) (hI : I ≤ 9) (hU : U < 2 ^ (7 * I)) (hX : X * 2 ^ (7 * I) < 18446744073709551616) :
    bits .or .u64 (U : Int) (IntKind.u64.wrap ((X : Int) * 2 ^ (7 * I))) = ((U + X * 2 ^ (7 * I) : Nat) : Int) ∧ U + X * 2 ^ (7 * I) < 18446744073709551616 := by
  have e : ((X : Int) * 2 ^ (7 * I)) = ((X * 2 ^ (7 * I) : Nat) : Int) := by simp
  have ew : IntKind.u64.wrap ((X : Int) * 2 ^ (7 * I)) = ((X * 2 ^ (7 * I) : Nat) : Int) := by
    rw [e, IntKind.wrap_u64]; omega
  have hU' : U < 18446744073709551616 := by
    have : 2 ^ (7 * I) ≤ 2 ^ 63 := Nat.pow_le_pow_right (by decide) (by omega)
    omega
  have ej : U ||| X * 2 ^ (7 * I) = U + X * 2 ^ (7 * I) := by
    rw [Nat.or_comm, Nat.mul_comm, ← Nat.two_pow_add_eq_or_of_lt hU, Nat.add_comm]
  rw [ew, bits_or_u64_nat _ _ hU' hX, ej]
  refine ⟨rfl, ?_⟩
  rw [← ej]
  exact Nat.or_lt_two_pow (n := 64) (by simpa using hU') (by simpa using hX)
end Wm

/-- unfold -/
theorem unfold_any (u : Nat) (w : World) (h1 : u < 18446744073709551616) :
    Calls Try.prog 72 #[.int .u64 u] w fun e w' => e = .returned (.int .i64 (Wm.unzz u)) ∧ w = w' := by
  have hz1 : u % 2 = 1 → wrap64 (bits .xor .u64 IntKind.u64.max ((u : Int) / 2)) = Wm.unzz u := fun hu => by
    rw [Wm.xor_max _ (by omega) (by omega)]
    unfold wrap64 Wm.unzz; rw [if_pos hu]; omega
  have hz2 : ¬ u % 2 = 1 → ((u : Int) / 2) = Wm.unzz u := fun hu => by
    unfold Wm.unzz; rw [if_neg hu]; omega
  by_cases hu : u % 2 = 1
  · have h2 : ((u : Int) % 2 == 1) = true := by simp; omega
    have HZ := Lib.hid (hz1 hu); clear hz1 hz2 hu
    go_enter Try.func72, Try.ntmps72
    go_wp2
    go_ret
    exact ⟨Wm.ret_int HZ.out, rfl⟩
  · have h2 : ((u : Int) % 2 == 1) = false := by simp; omega
    have HZ := Lib.hid (hz2 hu); clear hz1 hz2 hu
    go_enter Try.func72, Try.ntmps72
    go_wp2
    go_ret
    exact ⟨Wm.ret_int HZ.out, rfl⟩

/-- fold -/
theorem fold_any (n : Int) (w : World) (h0 : -9223372036854775808 ≤ n) (h1 : n ≤ 9223372036854775807) :
    Calls Try.prog 99 #[.int .i64 n] w fun e w' => e = .returned (.int .u64 (Wm.zz n)) ∧ w = w' := by
  have hz1 : n < 0 → bits .xor .u64 IntKind.u64.max (IntKind.u64.wrap (IntKind.u64.wrap n * 2)) = Wm.zz n := fun hn => by
    rw [Wm.xor_max _ (by rw [IntKind.wrap_u64]; omega) (by rw [IntKind.wrap_u64]; omega)]
    unfold Wm.zz; rw [if_neg (by omega), IntKind.wrap_u64, IntKind.wrap_u64]; omega
  have hz2 : ¬ n < 0 → n * 2 = Wm.zz n := fun hn => by
    unfold Wm.zz; rw [if_pos (by omega)]; omega
  by_cases hn : n < 0
  · have HZ := Lib.hid (hz1 hn); clear hz1 hz2
    go_enter Try.func99, Try.ntmps99
    go_wp2
    go_ret
    exact ⟨Wm.ret_int HZ.out, rfl⟩
  · have HZ := Lib.hid (hz2 hn); clear hz1 hz2
    go_enter Try.func99, Try.ntmps99
    go_wp2
    go_ret
    exact ⟨Wm.ret_int HZ.out, rfl⟩

set_option maxRecDepth 100000 in
/-- Int of wire, the index in range -/
theorem int_in (s : ByteArray) (i : Nat) (w : World) (hs : s.size ≤ maxLen) (h0 : i ≤ s.size) :
    Calls Try.prog 54 #[.string s, .int .i64 i] w fun e w' => e = .returned (.tuple #[.int .i64 (Wm.int s.data.toList i).1, .int .i64 (Wm.int s.data.toList i).2.1, .int .i64 (Wm.int s.data.toList i).2.2]) ∧ w = w' := by
  unfold maxLen at hs
  have hlen : s.data.toList.length = s.size := by simp
  have hR : Wm.int s.data.toList i = Wm.D (s.data.toList.drop i) 0 0 i := by
    unfold Wm.int; rw [if_neg (by rw [hlen]; omega), Int.toNat_natCast]
  rw [hR]
  obtain ⟨R, hR⟩ : ∃ R, Wm.D (s.data.toList.drop i) 0 0 i = R := ⟨_, rfl⟩
  rw [hR]
  have HR := Lib.hid hR; clear hR
  have HL := Lib.hid hlen; clear hlen
  go_enter Try.func54, Try.ntmps54
  go_wp2
  go_loop [1, 7, 8] (fun a u i => ∃ (k U I : Nat), k ≤ s.size ∧ I ≤ 9 ∧ U < 2 ^ (7 * I) ∧ Wm.D (s.data.toList.drop k) I U k = R ∧ a = .int .i64 k ∧ u = .int .u64 U ∧ i = .int .i64 I) (fun a u i => 9 - (intOf i).toNat)
  case atStart => exact ⟨i, 0, 0, h0, by omega, by decide, HR.out, rfl, rfl, rfl⟩
  case round =>
    obtain ⟨k, U, I, hk, hI, hU, hD, rfl, rfl, rfl⟩ := hrel
    clear HR
    by_cases hlt : k < s.size
    · have hne : ((k : Int) == (s.size : Int)) = false := by simp; omega
      obtain ⟨B, hB⟩ : ∃ B : Nat, (s[k]'hlt).toNat = B := ⟨_, rfl⟩
      have hB1 : B < 256 := by rw [← hB]; exact (s[k]'hlt).toNat_lt
      have hstep := Wm.D_step s.data.toList k I U (by rw [HL.out]; exact hlt) B hB
      rw [hD] at hstep
      have HS := Lib.hid hstep; clear hstep hD
      have HU := Lib.hid hU; clear hU
      have hbt : ∀ h : k < s.size, (s[k]'h).toNat = B := fun _ => hB
      clear hB
      have hJ : B < 128 → (I = 9 → B ≤ 1) → B * 2 ^ (7 * I) < 18446744073709551616 := fun h1 h2 => by
        by_cases h9 : I = 9
        · have := h2 h9
          have e : 2 ^ (7 * I) = 9223372036854775808 := by rw [h9]
          rw [e]; omega
        · have e : 2 ^ (7 * I) ≤ 2 ^ 56 := Nat.pow_le_pow_right (by decide) (by omega)
          have := Nat.mul_le_mul (Nat.le_of_lt h1) e
          omega
      by_cases c9 : I = 9
      · have g9 : ((I : Int) == 9) = true := by simp; omega
        by_cases c1 : 1 < B
        · have HF := Lib.hid (show R = (0, 0, 2) by rw [HS.out, if_pos ⟨c9, c1⟩])
          clear c9 hJ
          go_wp2
          go_ret3
          exact ⟨by rw [HF.out]; rfl, rfl⟩
        · by_cases c0 : B = 0
          · have b0 : ((B : Int) == 0) = true := by simp; omega
            have i0 : 0 < I := by omega
            have HF := Lib.hid (show R = (0, 0, 2) by rw [HS.out, if_neg (by omega), if_neg (by omega), if_pos ⟨c0, i0⟩])
            clear c9 hJ c0
            go_wp2
            all_goals go_ret3
            all_goals exact ⟨by rw [HF.out]; rfl, rfl⟩
          · have b0 : ((B : Int) == 0) = false := by simp; omega
            have HF := Lib.hid (show R = (Wm.unzz (U + B * 2 ^ (7 * I)), (k : Int) + 1, 0) by rw [HS.out, if_neg (by omega), if_neg (by omega), if_neg (by omega)])
            obtain ⟨j1, j2⟩ := Wm.join U B I hI HU.out (hJ (by omega) (by omega))
            have b128 : (B : Int) % 128 = B := by omega
            have B128 : B < 128 := by omega
            clear c9 hJ c0
            go_wp2_with (go_at_call 72; refine (unfold_any _ _ j2).mono ?_; rintro e w' ⟨rfl, rfl⟩)
            go_ret3
            exact ⟨by rw [HF.out]; rfl, rfl⟩
      · have g9 : ((I : Int) == 9) = false := by simp; omega
        by_cases c128 : 128 ≤ B
        · have hm : (B : Int) % 128 = ((B - 128 : Nat) : Int) := by omega
          have h64 : (B - 128) * 2 ^ (7 * I) < 18446744073709551616 := by
            have e : 2 ^ (7 * I) ≤ 2 ^ 56 := Nat.pow_le_pow_right (by decide) (by omega)
            have := Nat.mul_le_mul (show B - 128 ≤ 128 by omega) e
            omega
          obtain ⟨j1, j2⟩ := Wm.join U (B - 128) I hI HU.out h64
          have hlt7 : U + (B - 128) * 2 ^ (7 * I) < 2 ^ (7 * (I + 1)) := by
            have hU := HU.out
            have := Nat.mul_le_mul_right (2 ^ (7 * I)) (show B - 128 ≤ 127 by omega)
            rw [Wm.pow7]; omega
          have HF := Lib.hid (show Wm.D (s.data.toList.drop (k + 1)) (I + 1) (U + (B - 128) * 2 ^ (7 * I)) (k + 1) = R by rw [HS.out, if_neg (by omega), if_pos c128])
          have H7 := Lib.hid hlt7
          have H9 := Lib.hid c9
          clear c9 hJ h64 hlt7
          go_wp2
          go_round
          case rel => exact ⟨k + 1, _, I + 1, by omega, by have := H9.out; omega, H7.out, HF.out, by go_num, rfl, by go_num⟩
          case measure => have := H9.out; simp [intOf]; omega
        · by_cases c0 : B = 0
          · have b0 : ((B : Int) == 0) = true := by simp; omega
            by_cases i0 : 0 < I
            · have HF := Lib.hid (show R = (0, 0, 2) by rw [HS.out, if_neg (by omega), if_neg (by omega), if_pos ⟨c0, i0⟩])
              clear c9 hJ c0
              go_wp2
              all_goals go_ret3
              all_goals exact ⟨by rw [HF.out]; rfl, rfl⟩
            · have HF := Lib.hid (show R = (Wm.unzz (U + B * 2 ^ (7 * I)), (k : Int) + 1, 0) by rw [HS.out, if_neg (by omega), if_neg (by omega), if_neg (by omega)])
              obtain ⟨j1, j2⟩ := Wm.join U B I hI HU.out (hJ (by omega) (by omega))
              have b128 : (B : Int) % 128 = B := by omega
              clear c9 hJ c0
              go_wp2_with (go_at_call 72; refine (unfold_any _ _ j2).mono ?_; rintro e w' ⟨rfl, rfl⟩)
              go_ret3
              exact ⟨by rw [HF.out]; rfl, rfl⟩
          · have b0 : ((B : Int) == 0) = false := by simp; omega
            have HF := Lib.hid (show R = (Wm.unzz (U + B * 2 ^ (7 * I)), (k : Int) + 1, 0) by rw [HS.out, if_neg (by omega), if_neg (by omega), if_neg (by omega)])
            obtain ⟨j1, j2⟩ := Wm.join U B I hI HU.out (hJ (by omega) (by omega))
            have b128 : (B : Int) % 128 = B := by omega
            clear c9 hJ c0
            go_wp2_with (go_at_call 72; refine (unfold_any _ _ j2).mono ?_; rintro e w' ⟨rfl, rfl⟩)
            go_ret3
            exact ⟨by rw [HF.out]; rfl, rfl⟩
    · obtain rfl : k = s.size := by omega
      have HF := Lib.hid (show R = (0, 0, 3) by rw [← hD, Wm.D_end _ _ _ _ (by rw [HL.out]; omega)])
      clear hD
      go_wp2
      go_ret3
      exact ⟨by rw [HF.out]; rfl, rfl⟩

/-- what Int answers, as a value -/
def Wm.val (r : Int × Int × Int) : Value := .tuple #[.int .i64 r.1, .int .i64 r.2.1, .int .i64 r.2.2]

/-- Int of wire -/
theorem int_any (s : ByteArray) (i : Int) (w : World) (hs : s.size ≤ maxLen) :
    Calls Try.prog 54 #[.string s, .int .i64 i] w fun e w' => e = .returned (Wm.val (Wm.int s.data.toList i)) ∧ w = w' := by
  have hlen : s.data.toList.length = s.size := by simp
  by_cases h0 : i < 0
  · have HF := Lib.hid (show Wm.int s.data.toList i = (0, 0, 1) by unfold Wm.int; rw [if_pos (.inl h0)])
    clear hlen
    go_enter Try.func54, Try.ntmps54
    go_wp2
    go_ret3
    exact ⟨by rw [HF.out]; rfl, rfl⟩
  · by_cases h1 : (s.size : Int) < i
    · have HF := Lib.hid (show Wm.int s.data.toList i = (0, 0, 1) by unfold Wm.int; rw [if_pos (.inr (by rw [hlen]; exact h1))])
      clear hlen
      go_enter Try.func54, Try.ntmps54
      go_wp2
      go_ret3
      exact ⟨by rw [HF.out]; rfl, rfl⟩
    · obtain ⟨i, rfl⟩ := Int.eq_ofNat_of_zero_le (show 0 ≤ i by omega)
      exact int_in s i w hs (by omega)

end Go.Proofs.Ytebkgndcgcdogaa
