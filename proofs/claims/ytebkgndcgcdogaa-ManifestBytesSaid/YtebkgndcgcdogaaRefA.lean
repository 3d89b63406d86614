/-
  Contracts of the reference's Int.
-/
import Derived.Test.YtebkgndcgcdogaaWireA
namespace Go.Proofs.Ytebkgndcgcdogaa
open Go.RowKit
set_option maxHeartbeats 400000

theorem Wm.and127 (B : Nat) (h : B < 256) : bits .and .u8 (B : Int) 127 = ((B % 128 : Nat) : Int) := by
  have := bits_mask .u8 8 (by decide) wraps_u8 7 (by decide) (B : Int) (by omega) (by omega)
  rw [show ((2 : Int) ^ 7 - 1) = 127 by decide] at this
  rw [this]; simp
theorem Wm.and1 (u : Nat) (h : u < 18446744073709551616) : bits .and .u64 (u : Int) 1 = ((u % 2 : Nat) : Int) := by
  have := bits_and_u64_nat u 1 h (by omega)
  rw [show ((1 : Nat) : Int) = 1 from rfl] at this
  rw [this, Nat.and_one_is_mod]

set_option maxRecDepth 100000 in
/-- Int of the reference, the index in range -/
theorem rint_in (s : ByteArray) (i : Nat) (w : World) (hs : s.size ≤ 9223372036854775000) (h0 : i ≤ s.size) :
    Calls Try.prog 57 #[.string s, .int .i64 i] w fun e w' => e = .returned (.tuple #[.int .i64 (Wm.int s.data.toList i).1, .int .i64 (Wm.int s.data.toList i).2.1, .int .i64 (Wm.int s.data.toList i).2.2]) ∧ w = w' := by
  have hlen : s.data.toList.length = s.size := by simp
  have hR : Wm.int s.data.toList i = Wm.D (s.data.toList.drop i) 0 0 i := by
    unfold Wm.int; rw [if_neg (by rw [hlen]; omega), Int.toNat_natCast]
  rw [hR]
  obtain ⟨R, hR⟩ : ∃ R, Wm.D (s.data.toList.drop i) 0 0 i = R := ⟨_, rfl⟩
  rw [hR]
  have HR := Lib.hid hR; clear hR
  have HL := Lib.hid hlen; clear hlen
  have d1 : decide (s.size < i) = false := by simp; omega
  go_enter Try.func57, Try.ntmps57
  go_wp2
  go_loop [7, 8] (fun u j => ∃ (U I : Nat), i + I ≤ s.size ∧ I ≤ 9 ∧ U < 2 ^ (7 * I) ∧ Wm.D (s.data.toList.drop (i + I)) I U (i + I) = R ∧ u = .int .u64 U ∧ j = .int .i64 I) (fun u j => 9 - (intOf j).toNat)
  case atStart => exact ⟨0, 0, h0, by omega, by decide, HR.out, rfl, rfl⟩
  case round =>
    obtain ⟨U, I, hk, hI, hU, hD, rfl, rfl⟩ := hrel
    clear HR
    by_cases hlt : i + I < s.size
    · obtain ⟨B, hB⟩ : ∃ B : Nat, (s[i + I]'hlt).toNat = B := ⟨_, rfl⟩
      have hB1 : B < 256 := by rw [← hB]; exact (s[i + I]'hlt).toNat_lt
      have hstep := Wm.D_step s.data.toList (i + I) I U (by rw [HL.out]; exact hlt) B hB
      rw [hD] at hstep
      have HS := Lib.hid hstep; clear hstep hD
      have HU := Lib.hid hU; clear hU
      have hbt : ∀ h : i + I < s.size, (s[i + I]'h).toNat = B := fun _ => hB
      clear hB
      have hand := Wm.and127 B hB1
      have hJ : B < 128 → (I = 9 → B ≤ 1) → B * 2 ^ (7 * I) < 18446744073709551616 := fun h1 h2 => by
        by_cases h9 : I = 9
        · have := h2 h9
          have e : 2 ^ (7 * I) = 9223372036854775808 := by rw [h9]
          rw [e]; omega
        · have e : 2 ^ (7 * I) ≤ 2 ^ 56 := Nat.pow_le_pow_right (by decide) (by omega)
          have := Nat.mul_le_mul (Nat.le_of_lt h1) e
          omega
      have fin : B < 128 → (I = 9 → B ≤ 1) → ¬ (B = 0 ∧ 0 < I) → R = (Wm.unzz (U + B * 2 ^ (7 * I)), ((i + I : Nat) : Int) + 1, 0) := fun h1 h2 h3 => by
        rw [HS.out, if_neg (by omega), if_neg (by omega), if_neg h3]
      by_cases c9 : I = 9
      · have g9 : ((I : Int) == 9) = true := by simp; omega
        by_cases c1 : 1 < B
        · have HF := Lib.hid (show R = (0, 0, 2) by rw [HS.out, if_pos ⟨c9, c1⟩])
          clear c9 hJ fin
          go_wp2
          go_ret3
          exact ⟨by rw [HF.out]; rfl, rfl⟩
        · by_cases c0 : B = 0
          · have b0 : ((B : Int) == 0) = true := by simp; omega
            have i0 : 0 < I := by omega
            have HF := Lib.hid (show R = (0, 0, 2) by rw [HS.out, if_neg (by omega), if_neg (by omega), if_pos ⟨c0, i0⟩])
            clear c9 hJ c0 fin
            go_wp2
            all_goals go_ret3
            all_goals exact ⟨by rw [HF.out]; rfl, rfl⟩
          · have b0 : ((B : Int) == 0) = false := by simp; omega
            have B128 : B < 128 := by omega
            have HF := Lib.hid (fin B128 (by omega) (by omega))
            obtain ⟨j1, j2⟩ := Wm.join U B I hI HU.out (hJ B128 (by omega))
            obtain ⟨V, hV⟩ : ∃ V, U + B * 2 ^ (7 * I) = V := ⟨_, rfl⟩
            rw [hV] at j1 j2 HF
            have b128 : ((B % 128 : Nat) : Int) = B := by omega
            rw [b128] at hand
            have h1 := Wm.and1 V j2
            clear c9 hJ c0 fin hV b128
            by_cases hv : V % 2 = 1
            · rw [hv] at h1
              have g1 : (bits .and .u64 (V : Int) 1 == 1) = true := by rw [h1]; rfl
              have HZ := Lib.hid (show -((V : Int) / 2) - 1 = Wm.unzz V by unfold Wm.unzz; rw [if_pos hv]; omega)
              clear h1 hv
              go_wp2
              go_ret3
              exact ⟨by rw [HF.out]; exact congrArg Ending.returned (by rw [← HZ.out]; rfl), rfl⟩
            · have g1 : (bits .and .u64 (V : Int) 1 == 1) = false := by rw [h1]; simp; omega
              have HZ := Lib.hid (show (V : Int) / 2 = Wm.unzz V by unfold Wm.unzz; rw [if_neg hv]; omega)
              clear h1 hv
              go_wp2
              go_ret3
              exact ⟨by rw [HF.out]; exact congrArg Ending.returned (by rw [← HZ.out]; rfl), rfl⟩
      · have g9 : ((I : Int) == 9) = false := by simp; omega
        by_cases c128 : 128 ≤ B
        · have hm : ((B % 128 : Nat) : Int) = ((B - 128 : Nat) : Int) := by omega
          rw [hm] at hand
          have h64 : (B - 128) * 2 ^ (7 * I) < 18446744073709551616 := by
            have e : 2 ^ (7 * I) ≤ 2 ^ 56 := Nat.pow_le_pow_right (by decide) (by omega)
            have := Nat.mul_le_mul (show B - 128 ≤ 128 by omega) e
            omega
          obtain ⟨j1, j2⟩ := Wm.join U (B - 128) I hI HU.out h64
          have hlt7 : U + (B - 128) * 2 ^ (7 * I) < 2 ^ (7 * (I + 1)) := by
            have hU := HU.out
            have := Nat.mul_le_mul_right (2 ^ (7 * I)) (show B - 128 ≤ 127 by omega)
            rw [Wm.pow7]; omega
          have HF := Lib.hid (show Wm.D (s.data.toList.drop (i + (I + 1))) (I + 1) (U + (B - 128) * 2 ^ (7 * I)) (i + (I + 1)) = R by rw [HS.out, if_neg (by omega), if_pos c128]; rfl)
          have H7 := Lib.hid hlt7
          have H9 := Lib.hid c9
          clear c9 hJ h64 hlt7 fin hm
          go_wp2
          go_round
          case rel => exact ⟨_, I + 1, by omega, by have := H9.out; omega, H7.out, HF.out, rfl, by go_num⟩
          case measure => have := H9.out; simp [intOf]; omega
        · by_cases c0 : B = 0
          · have b0 : ((B : Int) == 0) = true := by simp; omega
            by_cases i0 : 0 < I
            · have HF := Lib.hid (show R = (0, 0, 2) by rw [HS.out, if_neg (by omega), if_neg (by omega), if_pos ⟨c0, i0⟩])
              clear c9 hJ c0 fin
              go_wp2
              all_goals go_ret3
              all_goals exact ⟨by rw [HF.out]; rfl, rfl⟩
            · have B128 : B < 128 := by omega
              have HF := Lib.hid (fin B128 (by omega) (by omega))
              obtain ⟨j1, j2⟩ := Wm.join U B I hI HU.out (hJ B128 (by omega))
              obtain ⟨V, hV⟩ : ∃ V, U + B * 2 ^ (7 * I) = V := ⟨_, rfl⟩
              rw [hV] at j1 j2 HF
              have b128 : ((B % 128 : Nat) : Int) = B := by omega
              rw [b128] at hand
              have h1 := Wm.and1 V j2
              clear c9 hJ c0 fin hV b128
              by_cases hv : V % 2 = 1
              · rw [hv] at h1
                have g1 : (bits .and .u64 (V : Int) 1 == 1) = true := by rw [h1]; rfl
                have HZ := Lib.hid (show -((V : Int) / 2) - 1 = Wm.unzz V by unfold Wm.unzz; rw [if_pos hv]; omega)
                clear h1 hv
                go_wp2
                go_ret3
                exact ⟨by rw [HF.out]; exact congrArg Ending.returned (by rw [← HZ.out]; rfl), rfl⟩
              · have g1 : (bits .and .u64 (V : Int) 1 == 1) = false := by rw [h1]; simp; omega
                have HZ := Lib.hid (show (V : Int) / 2 = Wm.unzz V by unfold Wm.unzz; rw [if_neg hv]; omega)
                clear h1 hv
                go_wp2
                go_ret3
                exact ⟨by rw [HF.out]; exact congrArg Ending.returned (by rw [← HZ.out]; rfl), rfl⟩
          · have b0 : ((B : Int) == 0) = false := by simp; omega
            have B128 : B < 128 := by omega
            have HF := Lib.hid (fin B128 (by omega) (by omega))
            obtain ⟨j1, j2⟩ := Wm.join U B I hI HU.out (hJ B128 (by omega))
            obtain ⟨V, hV⟩ : ∃ V, U + B * 2 ^ (7 * I) = V := ⟨_, rfl⟩
            rw [hV] at j1 j2 HF
            have b128 : ((B % 128 : Nat) : Int) = B := by omega
            rw [b128] at hand
            have h1 := Wm.and1 V j2
            clear c9 hJ c0 fin hV b128
            by_cases hv : V % 2 = 1
            · rw [hv] at h1
              have g1 : (bits .and .u64 (V : Int) 1 == 1) = true := by rw [h1]; rfl
              have HZ := Lib.hid (show -((V : Int) / 2) - 1 = Wm.unzz V by unfold Wm.unzz; rw [if_pos hv]; omega)
              clear h1 hv
              go_wp2
              go_ret3
              exact ⟨by rw [HF.out]; exact congrArg Ending.returned (by rw [← HZ.out]; rfl), rfl⟩
            · have g1 : (bits .and .u64 (V : Int) 1 == 1) = false := by rw [h1]; simp; omega
              have HZ := Lib.hid (show (V : Int) / 2 = Wm.unzz V by unfold Wm.unzz; rw [if_neg hv]; omega)
              clear h1 hv
              go_wp2
              go_ret3
              exact ⟨by rw [HF.out]; exact congrArg Ending.returned (by rw [← HZ.out]; rfl), rfl⟩
    · have HF := Lib.hid (show R = (0, 0, 3) by rw [← hD, Wm.D_end _ _ _ _ (by rw [HL.out]; omega)])
      clear hD
      go_wp2
      go_ret3
      exact ⟨by rw [HF.out]; rfl, rfl⟩

/-- Int of the reference -/
theorem rint_any (s : ByteArray) (i : Int) (w : World) (hs : s.size ≤ 9223372036854775000) :
    Calls Try.prog 57 #[.string s, .int .i64 i] w fun e w' => e = .returned (Wm.val (Wm.int s.data.toList i)) ∧ w = w' := by
  have hlen : s.data.toList.length = s.size := by simp
  by_cases h0 : i < 0
  · have HF := Lib.hid (show Wm.int s.data.toList i = (0, 0, 1) by unfold Wm.int; rw [if_pos (.inl h0)])
    clear hlen
    go_enter Try.func57, Try.ntmps57
    go_wp2
    go_ret3
    exact ⟨by rw [HF.out]; rfl, rfl⟩
  · by_cases h1 : (s.size : Int) < i
    · have HF := Lib.hid (show Wm.int s.data.toList i = (0, 0, 1) by unfold Wm.int; rw [if_pos (.inr (by rw [hlen]; exact h1))])
      clear hlen
      go_enter Try.func57, Try.ntmps57
      go_wp2
      go_ret3
      exact ⟨by rw [HF.out]; rfl, rfl⟩
    · obtain ⟨i, rfl⟩ := Int.eq_ofNat_of_zero_le (show 0 ≤ i by omega)
      exact rint_in s i w hs (by omega)

end Go.Proofs.Ytebkgndcgcdogaa
