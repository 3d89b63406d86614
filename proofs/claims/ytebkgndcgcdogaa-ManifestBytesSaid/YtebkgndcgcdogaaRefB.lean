/-
  Contracts of the reference's PutInt.
-/
import Derived.Test.YtebkgndcgcdogaaRefA
import Derived.Below
namespace Go.Proofs.Ytebkgndcgcdogaa
open Go.RowKit
set_option maxHeartbeats 400000

/-- a string from its bytes -/
def Wm.str (l : List UInt8) : Value := .string ⟨l.toArray⟩

theorem Wm.or128 (B : Nat) : bits .or .u8 ((B : Int) % 256) 128 = ((B % 128 + 128 : Nat) : Int) := by
  have e1 : (B : Int) % 256 = ((B % 256 : Nat) : Int) := by simp
  have e2 : (128 : Int) = ((128 : Nat) : Int) := rfl
  rw [e1, e2, (bits_nat .u8 8 (by decide) wraps_u8 _ _ (show B % 256 < 2 ^ 8 by omega) (by decide)).2]
  congr 1
  have h3 : ∀ x : Fin 256, x.1 ||| 128 = x.1 % 128 + 128 := by decide +kernel
  have := h3 ⟨B % 256, by omega⟩
  simp only at this
  omega

/-- string(b) of a new slice of one byte -/
theorem Wm.conv_one (W : World) (x : Nat) (hx : x < 256) :
    (convert 51 9 (.slice (some ⟨W.heap.size, 0, none⟩) 1 1)).run Try.prog (W.alloc (.cells #[.int .u8 (x : Int)] 5)) = .ok (.string ⟨#[UInt8.ofNat x]⟩) (W.alloc (.cells #[.int .u8 (x : Int)] 5)) := by
  have := run_convert_bytes_back (P := Try.prog) (W.alloc (.cells #[.int .u8 (x : Int)] 5)) 51 9 5 ⟨W.heap.size, 0, none⟩ 1 [UInt8.ofNat x] Try.underlying51 Try.underlying5 Try.underlying9
    (fun j hj => by
      obtain rfl : j = 0 := by simpa using hj
      have e : (UInt8.ofNat x).toNat = x := Wm.ofNat_toNat hx
      simp [Addr.add, e])
  simpa using this

theorem Wm.zz_xor (n : Int) (h0 : -9223372036854775808 ≤ n) (h1 : n ≤ 9223372036854775807) :
    bits .xor .u64 (IntKind.u64.wrap (IntKind.u64.wrap n * 2)) (IntKind.u64.wrap (n / 9223372036854775808)) = Wm.zz n := by
  obtain ⟨X, hX⟩ : ∃ X : Nat, IntKind.u64.wrap (IntKind.u64.wrap n * 2) = X := Int.eq_ofNat_of_zero_le (by rw [IntKind.wrap_u64]; omega)
  have hX' := hX
  rw [IntKind.wrap_u64, IntKind.wrap_u64] at hX'
  have hXl : X < 18446744073709551616 := by omega
  rw [hX]
  by_cases hn : n < 0
  · have e : IntKind.u64.wrap (n / 9223372036854775808) = ((18446744073709551615 : Nat) : Int) := by rw [IntKind.wrap_u64]; omega
    have e2 : IntKind.u64.max = ((18446744073709551615 : Nat) : Int) := by decide
    have hm := Wm.xor_max X (by omega) (by omega)
    rw [e2, bits_xor_u64_nat _ _ (by decide) hXl, Nat.xor_comm] at hm
    rw [e, bits_xor_u64_nat _ _ hXl (by decide), hm]
    unfold Wm.zz; rw [if_neg (by omega)]; omega
  · have e : IntKind.u64.wrap (n / 9223372036854775808) = ((0 : Nat) : Int) := by rw [IntKind.wrap_u64]; omega
    rw [e, bits_xor_u64_nat _ _ hXl (by decide), Nat.xor_zero]
    unfold Wm.zz; rw [if_pos (by omega)]; omega
theorem Wm.str_snoc (l : List UInt8) (x : UInt8) : Value.string (⟨l.toArray⟩ ++ ⟨#[x]⟩) = Wm.str (l ++ [x]) := by
  unfold Wm.str
  rfl

set_option maxRecDepth 100000 in
theorem rput_any (s : ByteArray) (n : Int) (w : World) (hs : s.size ≤ 9223372036854775000) (h0 : -9223372036854775808 ≤ n) (h1 : n ≤ 9223372036854775807) :
    Calls Try.prog 53 #[.string s, .int .i64 n] w fun e w' => e = .returned (Wm.str (s.data.toList ++ Wm.encI n)) ∧ Below w.heap.size w w' := by
  have HZ := Lib.hid (Wm.zz_xor n h0 h1)
  have HE := Wm.encI_length n
  go_enter Try.func53, Try.ntmps53
  go_wp2
  go_loopw [0, 5] (fun a u wr => ∃ (l : List UInt8) (U f : Nat), a = Wm.str l ∧ u = .int .u64 U ∧ Below w.heap.size w wr ∧ l ++ Wm.enc f U = s.data.toList ++ Wm.encI n ∧ U < 2 ^ (7 * f + 1)) (fun a u wr => (intOf u).toNat)
  case atStart => exact ⟨s.data.toList, Wm.zz n, 9, rfl, by rw [HZ.out], Below.refl _ _, rfl, Wm.zz_lt n h0 h1⟩
  case round =>
    obtain ⟨l, U, f, rfl, rfl, hB, hE, hU⟩ := hrel
    unfold Wm.str
    have hl : l.length ≤ s.size + 10 := by
      have := congrArg List.length hE
      simp only [List.length_append, Array.length_toList, ByteArray.size_data] at this
      omega
    by_cases hlt : 127 < U
    · have ho := Wm.or128 U
      obtain ⟨f, rfl⟩ : ∃ g, f = g + 1 := by
        cases f with
        | zero => simp at hU; omega
        | succ g => exact ⟨g, rfl⟩
      have hE2 := hE
      rw [Wm.enc, if_neg (by omega)] at hE2
      obtain ⟨x, hx⟩ : ∃ x, U % 128 + 128 = x := ⟨_, rfl⟩
      rw [hx] at ho hE2
      have hc := Wm.conv_one wr x (by omega)
      have HE2 := Lib.hid hE2
      have hU2 : U / 128 < 2 ^ (7 * f + 1) := by
        have e : 2 ^ (7 * (f + 1) + 1) = 2 ^ (7 * f + 1) * 128 := by rw [show 7 * (f + 1) + 1 = 7 * f + 1 + 7 by omega, Nat.pow_add]
        rw [e] at hU
        exact Nat.div_lt_of_lt_mul (by omega)
      have HU := Lib.hid hU2
      clear hx hE hE2 hU hU2
      go_wp2
      refine ⟨⟨l ++ [UInt8.ofNat x], U / 128, f, Wm.str_snoc _ _, by go_num, hB.alloc hB.size _, by rw [← HE2.out]; simp, HU.out⟩, ?_⟩
      simp [intOf]; omega
    · have hc := Wm.conv_one wr U (by omega)
      have hE2 : l ++ [UInt8.ofNat U] = s.data.toList ++ Wm.encI n := by
        rw [← hE]
        cases f with
        | zero => rfl
        | succ g => rw [Wm.enc, if_pos (by omega)]
      have HE2 := Lib.hid hE2
      clear hE hE2 hU
      go_wp2
      go_ret
      exact ⟨by rw [← HE2.out, ← Wm.str_snoc]; rfl, hB.alloc hB.size _⟩
end Go.Proofs.Ytebkgndcgcdogaa
