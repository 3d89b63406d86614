/-
  Contracts of the reference's PutInt.
-/
import Derived.Test.YtogaljgekaogkaaRefA
import Derived.Below
namespace Go.Proofs.Ytogaljgekaogkaa
open Go.RowKit
set_option maxHeartbeats 400000

/-- a string from its bytes -/
def Wm.str (l : List UInt8) : Value := .string ⟨l.toArray⟩

theorem Wm.or128 (B : Nat) : bits .or .u8 ((B : Int) % 256) 128 = ((B % 128 + 128 : Nat) : Int) := by
  have e1 : (B : Int) % 256 = ((B % 256 : Nat) : Int) := by simp
  have e2 : (128 : Int) = ((128 : Nat) : Int) := rfl
  rw [e1, e2, (bits_nat .u8 8 (by decide) wraps_u8 _ _ (show B % 256 < 2 ^ 8 by omega) (by decide)).2]
  congr 1
  have h3 : ∀ x : Fin 256, x.1 ||| 128 = x.1 % 128 + 128 := by decide +kernel
  have := h3 ⟨B % 256, by omega⟩
  simp only at this
  omega

/-- string(b) of a new slice of one byte -/
theorem Wm.conv_one (W : World) (x : Nat) (hx : x < 256) :
    (convert 38 9 (.slice (some ⟨W.heap.size, 0, none⟩) 1 1)).run Try.prog (W.alloc (.cells #[.int .u8 (x : Int)] 5)) = .ok (.string ⟨#[UInt8.ofNat x]⟩) (W.alloc (.cells #[.int .u8 (x : Int)] 5)) := by
  have := run_convert_bytes_back (P := Try.prog) (W.alloc (.cells #[.int .u8 (x : Int)] 5)) 38 9 5 ⟨W.heap.size, 0, none⟩ 1 [UInt8.ofNat x] Try.underlying38 Try.underlying5 Try.underlying9
    (fun j hj => by
      obtain rfl : j = 0 := by simpa using hj
      have e : (UInt8.ofNat x).toNat = x := Wm.ofNat_toNat hx
      simp [Addr.add, e])
  simpa using this

theorem Wm.zz_xor (n : Int) (h0 : -9223372036854775808 ≤ n) (h1 : n ≤ 9223372036854775807) :
    bits .xor .u64 (IntKind.u64.wrap (IntKind.u64.wrap n * 2)) (IntKind.u64.wrap (n / 9223372036854775808)) = Wm.zz n := by
  obtain ⟨X, hX⟩ : ∃ X : Nat, IntKind.u64.wrap (IntKind.u64.wrap n * 2) = X := Int.eq_ofNat_of_zero_le (by rw [IntKind.wrap_u64]; omega)
  have hX' := hX
  rw [IntKind.wrap_u64, IntKind.wrap_u64] at hX'
  have hXl : X < 18446744073709551616 := by omega
  rw [hX]
  by_cases hn : n < 0
  · have e : IntKind.u64.wrap (n / 9223372036854775808) = ((18446744073709551615 : Nat) : Int) := by rw [IntKind.wrap_u64]; omega
    have e2 : IntKind.u64.max = ((18446744073709551615 : Nat) : Int) := by decide
    have hm := Wm.xor_max X (by omega) (by omega)
    rw [e2, bits_xor_u64_nat _ _ (by decide) hXl, Nat.xor_comm] at hm
    rw [e, bits_xor_u64_nat _ _ hXl (by decide), hm]
    unfold Wm.zz; rw [if_neg (by omega)]; omega
  · have e : IntKind.u64.wrap (n / 9223372036854775808) = ((0 : Nat) : Int) := by rw [IntKind.wrap_u64]; omega
    rw [e, bits_xor_u64_nat _ _ hXl (by decide), Nat.xor_zero]
    unfold Wm.zz; rw [if_pos (by omega)]; omega
theorem Wm.str_snoc (l : List UInt8) (x : UInt8) : Value.string (⟨l.toArray⟩ ++ ⟨#[x]⟩) = Wm.str (l ++ [x]) := by
  unfold Wm.str
  rfl

end Go.Proofs.Ytogaljgekaogkaa
