/-
  Contracts of Join, At and Of, of digest and of its reference, and of the statements' sanity check.
-/
import Derived.Test.YtkhpacifapidiaaDigA
import Derived.Test.YtkhpacifapidiaaRefC
namespace Go.Proofs.Ytkhpacifapidiaa
open Go.RowKit
set_option maxHeartbeats 400000

theorem join_any (a b n : Int) (w : World) (a0 : -9223372036854775808 ≤ a) (a1 : a ≤ 9223372036854775807) (b0 : -9223372036854775808 ≤ b) (b1 : b ≤ 9223372036854775807) (h0 : -9223372036854775808 ≤ n) (h1 : n ≤ 9223372036854775807) :
    Calls Try.prog 12 #[.int .i64 a, .int .i64 b, .int .i64 n] w fun e w' => e = .returned (.int .i64 (Dm.join a b n)) ∧ w = w' := by
  have HF := Lib.hid (show Dm.join a b n = (a % 2147483647 * Dm.pow n + b % 2147483647 - Dm.pow n) % 2147483647 from rfl)
  obtain ⟨p, hp⟩ : ∃ p, Dm.pow n = p := ⟨_, rfl⟩
  obtain ⟨p0, p1⟩ := Dm.pow_lt n
  rw [hp] at p0 p1 HF
  have x0 : 0 ≤ a % 2147483647 := by omega
  have x1 : a % 2147483647 < 2147483647 := by omega
  have y0 : 0 ≤ b % 2147483647 := by omega
  have y1 : b % 2147483647 < 2147483647 := by omega
  have hm := Dm.prod x0 x1 p0 p1
  obtain ⟨x, hx⟩ : ∃ x, a % 2147483647 = x := ⟨_, rfl⟩
  obtain ⟨y, hy⟩ : ∃ y, b % 2147483647 = y := ⟨_, rfl⟩
  obtain ⟨m, hm2⟩ : ∃ m, x * p = m := ⟨_, rfl⟩
  rw [hx] at x0 x1 hm HF
  rw [hy] at y0 y1 HF
  rw [hm2] at hm HF
  obtain ⟨m0, m1⟩ := hm
  have HP := Lib.hid hp
  have HX := Lib.hid hx
  have HY := Lib.hid hy
  clear hp hx hy
  go_enter Try.func12, Try.ntmps12
  go_wp2_with fail
  refine (power_any _ _ h0 h1).mono ?_
  rintro e w' ⟨rfl, rfl⟩
  rw [HP.out]
  go_wp2_with fail
  refine (reduce_any _ _ a0 a1).mono ?_
  rintro e w' ⟨rfl, rfl⟩
  rw [HX.out]
  go_wp2_with fail
  refine (reduce_any _ _ b0 b1).mono ?_
  rintro e w' ⟨rfl, rfl⟩
  rw [HY.out]
  go_wp2_with fail
  refine (reduce_any _ _ (by omega) (by omega)).mono ?_
  rintro e w' ⟨rfl, rfl⟩
  go_wp2_with fail
  go_ret
  exact ⟨Dm.ret HF.out.symm, rfl⟩

theorem rjoin_any (a b n : Int) (w : World) (a0 : -9223372036854775808 ≤ a) (a1 : a ≤ 9223372036854775807) (b0 : -9223372036854775808 ≤ b) (b1 : b ≤ 9223372036854775807) (h0 : -9223372036854775808 ≤ n) (h1 : n ≤ 9223372036854775807) :
    Calls Try.prog 13 #[.int .i64 a, .int .i64 b, .int .i64 n] w fun e w' => e = .returned (.int .i64 (Dm.join a b n)) ∧ w = w' := by
  have HF := Lib.hid (show Dm.join a b n = (a % 2147483647 * Dm.pow n + b % 2147483647 - Dm.pow n) % 2147483647 from rfl)
  obtain ⟨p, hp⟩ : ∃ p, Dm.pow n = p := ⟨_, rfl⟩
  obtain ⟨p0, p1⟩ := Dm.pow_lt n
  rw [hp] at p0 p1 HF
  have x0 : 0 ≤ a % 2147483647 := by omega
  have x1 : a % 2147483647 < 2147483647 := by omega
  have y0 : 0 ≤ b % 2147483647 := by omega
  have y1 : b % 2147483647 < 2147483647 := by omega
  have hm := Dm.prod x0 x1 p0 p1
  obtain ⟨x, hx⟩ : ∃ x, a % 2147483647 = x := ⟨_, rfl⟩
  obtain ⟨y, hy⟩ : ∃ y, b % 2147483647 = y := ⟨_, rfl⟩
  obtain ⟨m, hm2⟩ : ∃ m, x * p = m := ⟨_, rfl⟩
  rw [hx] at x0 x1 hm HF
  rw [hy] at y0 y1 HF
  rw [hm2] at hm HF
  obtain ⟨m0, m1⟩ := hm
  have HP := Lib.hid hp
  have HX := Lib.hid hx
  have HY := Lib.hid hy
  clear hp hx hy
  go_enter Try.func13, Try.ntmps13
  go_wp2_with fail
  refine (rpower_any _ _ h0 h1).mono ?_
  rintro e w' ⟨rfl, rfl⟩
  rw [HP.out]
  go_wp2_with fail
  refine (dmod_any _ _ a0 a1).mono ?_
  rintro e w' ⟨rfl, rfl⟩
  rw [HX.out]
  go_wp2_with fail
  refine (dmod_any _ _ b0 b1).mono ?_
  rintro e w' ⟨rfl, rfl⟩
  rw [HY.out]
  go_wp2_with fail
  refine (dmod_any _ _ (by omega) (by omega)).mono ?_
  rintro e w' ⟨rfl, rfl⟩
  go_wp2_with fail
  go_ret
  exact ⟨Dm.ret (by rw [HF.out]; omega), rfl⟩

theorem at_any (s : ByteArray) (x : Int) (w : World) (hs : s.size ≤ maxLen) (x0 : -9223372036854775808 ≤ x) (x1 : x ≤ 9223372036854775807) :
    Calls Try.prog 18 #[.string s, .int .i64 x] w fun e w' => e = .returned (.int .i64 (Dm.atx s.data.toList x)) ∧ w = w' := by
  unfold maxLen at hs
  have hlen : s.data.toList.length = s.size := by simp
  have HL := Lib.hid hlen
  clear hlen
  have y0 : 0 ≤ x % 2147483647 := by omega
  have y1 : x % 2147483647 < 2147483647 := by omega
  obtain ⟨y, hy⟩ : ∃ y, x % 2147483647 = y := ⟨_, rfl⟩
  have HF := Lib.hid (show Dm.atx s.data.toList x = Dm.at' y (s.data.toList.drop 0) by rw [← hy]; rfl)
  have HE := Lib.hid (show Dm.at' y (s.data.toList.drop s.size) = 0 by rw [List.drop_of_length_le (by rw [HL.out]; omega)]; rfl)
  rw [hy] at y0 y1
  have HY := Lib.hid hy
  clear hy
  go_enter Try.func18, Try.ntmps18
  go_wp2_with fail
  refine (reduce_any _ _ x0 x1).mono ?_
  rintro e w' ⟨rfl, rfl⟩
  rw [HY.out]
  go_wp2_with fail
  go_loop [5, 6] (fun v i => ∃ k : Nat, k ≤ s.size ∧ i = .int .i64 ((k : Int) - 1) ∧ v = .int .i64 (Dm.at' y (s.data.toList.drop k))) (fun v i => (intOf i + 1).toNat)
  case atStart => exact ⟨s.size, by omega, rfl, by rw [HE.out]⟩
  case round =>
    obtain ⟨k, hk, rfl, rfl⟩ := hrel
    by_cases hlt : 0 < k
    · obtain ⟨k, rfl⟩ : ∃ j, k = j + 1 := ⟨k - 1, by omega⟩
      obtain ⟨V, hV⟩ : ∃ V, Dm.at' y (s.data.toList.drop (k + 1)) = V := ⟨_, rfl⟩
      have hks : k < s.size := by omega
      obtain ⟨B, hB⟩ : ∃ B : Nat, (s[k]'hks).toNat = B := ⟨_, rfl⟩
      have hB1 : B < 256 := by rw [← hB]; exact (s[k]'hks).toNat_lt
      have hv := Dm.at'_lt y (s.data.toList.drop (k + 1))
      have ht := Dm.at'_drop y s.data.toList k (by rw [HL.out]; exact hks)
      rw [show (s.data.toList[k]'(by rw [HL.out]; exact hks)).toNat = B from hB] at ht
      rw [hV] at hv ht ⊢
      obtain ⟨p0, p1⟩ := Dm.prod hv.1 hv.2 y0 y1
      obtain ⟨T, hT⟩ : ∃ T, V * y = T := ⟨_, rfl⟩
      rw [hT] at p0 p1 ht
      have HN := Lib.hid ht
      have hbt : ∀ h : k < s.size, (s[k]'h).toNat = B := fun _ => hB
      rw [show ((k + 1 : Nat) : Int) - 1 = (k : Int) from by omega]
      clear ht hV hv hB HE HF
      go_wp2_with (first | (go_at_call 20; refine (reduce_any _ _ (by omega) (by omega)).mono ?_; rintro e w' ⟨rfl, rfl⟩) | (go_at_call 22; refine (term_any _ _ (by omega)).mono ?_; rintro e w' ⟨rfl, rfl⟩))
      go_round
      case rel => exact ⟨k, by omega, rfl, by rw [← HN.out]⟩
      case measure => simp [intOf]
    · obtain rfl : k = 0 := by omega
      clear HE
      go_wp2
      go_ret
      exact ⟨Dm.ret HF.out.symm, rfl⟩

theorem rat_any (s : ByteArray) (x : Int) (w : World) (hs : s.size ≤ maxLen) (x0 : -9223372036854775808 ≤ x) (x1 : x ≤ 9223372036854775807) :
    Calls Try.prog 19 #[.string s, .int .i64 x] w fun e w' => e = .returned (.int .i64 (Dm.atx s.data.toList x)) ∧ w = w' := by
  unfold maxLen at hs
  have hlen : s.data.toList.length = s.size := by simp
  have HL := Lib.hid hlen
  clear hlen
  have y0 : 0 ≤ x % 2147483647 := by omega
  have y1 : x % 2147483647 < 2147483647 := by omega
  obtain ⟨y, hy⟩ : ∃ y, x % 2147483647 = y := ⟨_, rfl⟩
  have HF := Lib.hid (show Dm.atx s.data.toList x = Dm.at' y (s.data.toList.drop 0) by rw [← hy]; rfl)
  have HE := Lib.hid (show Dm.at' y (s.data.toList.drop s.size) = 0 by rw [List.drop_of_length_le (by rw [HL.out]; omega)]; rfl)
  rw [hy] at y0 y1
  have HY := Lib.hid hy
  clear hy
  go_enter Try.func19, Try.ntmps19
  go_wp2_with fail
  refine (dmod_any _ _ x0 x1).mono ?_
  rintro e w' ⟨rfl, rfl⟩
  rw [HY.out]
  go_wp2_with fail
  go_loop [5, 6] (fun v i => ∃ k : Nat, k ≤ s.size ∧ i = .int .i64 ((k : Int) - 1) ∧ v = .int .i64 (Dm.at' y (s.data.toList.drop k))) (fun v i => (intOf i + 1).toNat)
  case atStart => exact ⟨s.size, by omega, rfl, by rw [HE.out]⟩
  case round =>
    obtain ⟨k, hk, rfl, rfl⟩ := hrel
    by_cases hlt : 0 < k
    · obtain ⟨k, rfl⟩ : ∃ j, k = j + 1 := ⟨k - 1, by omega⟩
      obtain ⟨V, hV⟩ : ∃ V, Dm.at' y (s.data.toList.drop (k + 1)) = V := ⟨_, rfl⟩
      have hks : k < s.size := by omega
      obtain ⟨B, hB⟩ : ∃ B : Nat, (s[k]'hks).toNat = B := ⟨_, rfl⟩
      have hB1 : B < 256 := by rw [← hB]; exact (s[k]'hks).toNat_lt
      have hv := Dm.at'_lt y (s.data.toList.drop (k + 1))
      have ht := Dm.at'_drop y s.data.toList k (by rw [HL.out]; exact hks)
      rw [show (s.data.toList[k]'(by rw [HL.out]; exact hks)).toNat = B from hB] at ht
      rw [hV] at hv ht ⊢
      obtain ⟨p0, p1⟩ := Dm.prod hv.1 hv.2 y0 y1
      obtain ⟨T, hT⟩ : ∃ T, V * y = T := ⟨_, rfl⟩
      rw [hT] at p0 p1 ht
      have HN := Lib.hid ht
      have hbt : ∀ h : k < s.size, (s[k]'h).toNat = B := fun _ => hB
      rw [show ((k + 1 : Nat) : Int) - 1 = (k : Int) from by omega]
      clear ht hV hv hB HE HF
      go_wp2
      go_round
      case rel => exact ⟨k, by omega, rfl, by rw [← HN.out]; go_num⟩
      case measure => simp [intOf]
    · obtain rfl : k = 0 := by omega
      clear HE
      go_wp2
      go_ret
      exact ⟨Dm.ret HF.out.symm, rfl⟩

/-- the digest of numbers -/
def Dm.ofL (z : List Int) : Int := Dm.sum (Wm.encL z)
theorem Dm.encL_length (z : List Int) : (Wm.encL z).length ≤ 10 + 10 * z.length := by
  have := Wm.encI_length (z.length : Int)
  have := Wm.flatMap_length z
  rw [Wm.encL, List.length_append]; omega
theorem Dm.encL_size (z : List Int) : (⟨(Wm.encL z).toArray⟩ : ByteArray).size ≤ 10 + 10 * z.length := by
  show Array.size _ ≤ _
  simpa using Dm.encL_length z
theorem Dm.str_nil (l : List UInt8) : Wm.str ((⟨#[]⟩ : ByteArray).data.toList ++ l) = .string ⟨l.toArray⟩ := rfl

theorem of_any (A : Option Addr) (n c : Nat) (z : List Int) (w : World) (hz : IntsIn .i64 w A n c z) (hn : n ≤ 14073748835500) :
    Calls Try.prog 16 #[.slice A n c] w fun e w' => e = .returned (.int .i64 (Dm.ofL z)) ∧ Below w.heap.size w w' := by
  have hzl := hz.1
  have hsz := Dm.encL_size z
  rw [hzl] at hsz
  clear hzl
  obtain ⟨E, hE⟩ : ∃ E : ByteArray, E = ⟨(Wm.encL z).toArray⟩ := ⟨_, rfl⟩
  have HV := Lib.hid (show Dm.ofL z = Dm.sum E.data.toList by rw [hE]; rfl)
  have HZ := Lib.hid hz
  clear hz
  go_enter Try.func16, Try.ntmps16
  go_wp2_with fail
  refine (putList_any ⟨#[]⟩ A n c z _ (by decide) HZ.out hn).mono ?_
  rintro e w' ⟨rfl, hB⟩
  rw [Dm.str_nil, ← hE]
  rw [← hE] at hsz
  clear hE HZ
  go_wp2_with fail
  refine (sum_any E _ (by unfold maxLen; omega)).mono ?_
  rintro e w2 ⟨rfl, rfl⟩
  go_wp2_with fail
  go_ret
  exact ⟨Dm.ret HV.out.symm, hB⟩

theorem rof_any (A : Option Addr) (n c : Nat) (z : List Int) (w : World) (hz : IntsIn .i64 w A n c z) (hn : n ≤ 14073748835500) :
    Calls Try.prog 17 #[.slice A n c] w fun e w' => e = .returned (.int .i64 (Dm.ofL z)) ∧ Below w.heap.size w w' := by
  have hzl := hz.1
  have hsz := Dm.encL_size z
  rw [hzl] at hsz
  clear hzl
  obtain ⟨E, hE⟩ : ∃ E : ByteArray, E = ⟨(Wm.encL z).toArray⟩ := ⟨_, rfl⟩
  have HV := Lib.hid (show Dm.ofL z = Dm.sum E.data.toList by rw [hE]; rfl)
  have HZ := Lib.hid hz
  clear hz
  go_enter Try.func17, Try.ntmps17
  go_wp2_with fail
  refine (rputList_any ⟨#[]⟩ A n c z _ (by decide) HZ.out hn).mono ?_
  rintro e w' ⟨rfl, hB⟩
  rw [Dm.str_nil, ← hE]
  rw [← hE] at hsz
  clear hE HZ
  go_wp2_with fail
  refine (rsum_any E _ (by unfold maxLen; omega)).mono ?_
  rintro e w2 ⟨rfl, rfl⟩
  go_wp2_with fail
  go_ret
  exact ⟨Dm.ret HV.out.symm, hB⟩

theorem Dm.sane1 : Dm.sum (ByteArray.mk #[]).data.toList = 1 := by decide +kernel
theorem Dm.sane2 : Dm.sum (ByteArray.mk #[97]).data.toList = 1000101 := by decide +kernel
theorem Dm.sane3 : Dm.pow 0 = 1 := by decide +kernel
theorem Dm.sane4 : Dm.atx (ByteArray.mk #[97]).data.toList 5 = 98 := by decide +kernel

theorem dsane_any (w : World) :
    Calls Try.prog 8 #[] w fun e w' => e = .returned (.bool true) ∧ w = w' := by
  go_enter Try.func8, Try.ntmps8
  go_wp2_with fail
  refine (sum_any ⟨#[]⟩ _ (by decide)).mono ?_
  rintro e w' ⟨rfl, rfl⟩
  rw [Dm.sane1]
  go_wp2_with fail
  refine (sum_any ⟨#[97]⟩ _ (by decide)).mono ?_
  rintro e w' ⟨rfl, rfl⟩
  rw [Dm.sane2]
  go_wp2_with fail
  refine (power_any 0 _ (by decide) (by decide)).mono ?_
  rintro e w' ⟨rfl, rfl⟩
  rw [Dm.sane3]
  go_wp2_with fail
  refine (at_any ⟨#[97]⟩ 5 _ (by decide) (by decide) (by decide)).mono ?_
  rintro e w' ⟨rfl, rfl⟩
  rw [Dm.sane4]
  go_wp2_with fail
  go_ret
  exact ⟨rfl, rfl⟩
end Go.Proofs.Ytkhpacifapidiaa
