/-
  WireOne: its walk.
-/
import Derived.Test.YtogoibpkohcgbaaLawA
import Derived.Test.YtogoibpkohcgbaaKit
namespace Go.Proofs.Ytogoibpkohcgbaa
open Go.RowKit
set_option maxHeartbeats 1000000

/-- PutInt onto nothing, the answer under another name -/
theorem put_as (x : Int) (h0 : -9223372036854775808 ≤ x) (h1 : x ≤ 9223372036854775807) (t : ByteArray) (ht : t.data.toList = Wm.encI x) (W : World) :
    Calls Try.prog 9 #[.string ⟨#[]⟩, .int .i64 x] W fun e w' => e = .returned (.string t) ∧ Below W.heap.size W w' := by
  have e1 : Wm.str ((⟨#[]⟩ : ByteArray).data.toList ++ Wm.encI x) = .string t := by
    unfold Wm.str
    congr 1
    apply ByteArray.ext
    apply Array.toList_inj.1
    simp [ht]
  rw [← e1]
  exact put_any ⟨#[]⟩ x W (by decide) h0 h1

set_option maxRecDepth 100000 in
theorem wireOne_walk (s : ByteArray) (m n : Int) (w : World) (hs : s.size ≤ 140737488351232) (hm0 : -9223372036854775808 ≤ m) (hm1 : m ≤ 9223372036854775807) (hn0 : -9223372036854775808 ≤ n) (hn1 : n ≤ 9223372036854775807) :
    Calls Try.prog 6 #[.string s, .int .i64 m, .int .i64 n] w fun e w' => e = .returned (.bool true) ∧ Below w.heap.size w w' := by
  have hlen : s.data.toList.length = s.size := by simp
  obtain ⟨x, k, r, hr⟩ : ∃ x k r, Wm.int s.data.toList 0 = (x, k, r) := ⟨_, _, _, rfl⟩
  -- the bytes of m and n
  obtain ⟨A, hA⟩ : ∃ A : ByteArray, A.data.toList = Wm.encI m := ⟨⟨(Wm.encI m).toArray⟩, by simp⟩
  obtain ⟨B, hB⟩ : ∃ B : ByteArray, B.data.toList = Wm.encI n := ⟨⟨(Wm.encI n).toArray⟩, by simp⟩
  have PA := Lib.hid (put_as m hm0 hm1 A hA)
  have PB := Lib.hid (put_as n hn0 hn1 B hB)
  have hAl : A.size ≤ 10 := by have := (Wm.encI_length m).2; rw [← hA] at this; simpa using this
  have hBl : B.size ≤ 10 := by have := (Wm.encI_length n).2; rw [← hB] at this; simpa using this
  have hne : m ≠ n → A.size ≤ B.size → B.extract 0 A.size ≠ A := fun h hl he => by
    have h2 := congrArg (fun b : ByteArray => b.data.toList) he
    simp only [ByteArray.data_extract, Array.toList_extract, List.extract_eq_take_drop, Nat.sub_zero, List.drop_zero] at h2
    rw [hA, hB] at h2
    have h3 := List.take_append_drop A.size (Wm.encI n)
    rw [h2] at h3
    exact h (Wm.encI_prefix hm0 hm1 hn0 hn1 h3.symm)
  have HN := Lib.hid hne
  have HR := Lib.hid hr
  clear hA hB hne hr
  go_enter Try.func6, Try.ntmps6
  go_wp2_with fail
  refine (sane_any _).mono ?_
  rintro e w1 ⟨rfl, hB1⟩
  go_wp2_with fail
  refine (int_any s 0 _ (by unfold maxLen; omega)).mono ?_
  rintro e w' ⟨rfl, rfl⟩
  rw [HR.out]
  unfold Wm.val
  have hr0' : r = 0 ∨ (r == 0) = false := by
    by_cases h : r = 0
    · exact .inl h
    · exact .inr (by simpa using h)
  rcases hr0' with rfl | hr0
  · obtain ⟨_, _, t, ht, hk, hx0, hx1⟩ := Wm.int_canon HR.out
    have HE := Wm.encI_length x
    simp only [Int.toNat_zero, List.drop_zero] at ht
    have hk2 : (Wm.encI x).length ≤ s.size := by rw [← hlen, ht]; simp
    have hx : (s.extract 0 (Wm.encI x).length).data.toList = Wm.encI x := by simp [ht]
    obtain ⟨K, hK⟩ : ∃ K, (Wm.encI x).length = K := ⟨_, rfl⟩
    rw [hK] at HE hk2 hk hx
    clear hK ht
    obtain rfl : k = (K : Int) := by omega
    have hK1 : 1 ≤ K := HE.1
    have hK2 : K ≤ 10 := HE.2
    have HP := Lib.hid (put_as x hx0 hx1 _ hx)
    clear HE hk hx
    have d1 : decide ((K : Int) < 1) = false := by simp; omega
    have d2 : decide ((10 : Int) < (K : Int)) = false := by simp; omega
    have d3 : decide (s.size < K) = false := by simp; omega
    clear HR hlen
    go_wp2_with fail
    refine wp_region_below w.heap.size (by kernel_rfl) (by kernel_rfl) ?_
    repeat (go_big_quiet_step ((go_at_call 9; exact Calls.ext_of _ hB1.size (HP.out _))))
    refine wpQuiet_nil ?_
    intro w2 hB2
    clear HP
    have hB := hB1.trans hB2
    clear hB1 hB2
    go_wp2_with fail
    refine (PA.out _).mono ?_
    rintro e w3 ⟨rfl, hB3⟩
    go_wp2_with fail
    refine (PB.out _).mono ?_
    rintro e w4 ⟨rfl, hB4⟩
    have hB' := (hB.trans (hB3.mono hB.size)).trans (hB4.mono (Nat.le_trans hB.size hB3.size))
    clear hB hB3 hB4
    by_cases hmn : m = n
    · have g : (m == n) = true := by simp [hmn]
      clear hmn
      go_wp2
      go_ret
      exact ⟨rfl, hB'⟩
    · have g : (m == n) = false := by simp [hmn]
      by_cases hl : B.size < A.size
      · clear hmn
        go_wp2
        go_ret
        exact ⟨rfl, hB'⟩
      · have h5 := str_ne (HN.out hmn (by omega))
        clear hmn
        go_wp2
        go_ret
        exact ⟨rfl, hB'⟩
  · clear HR hlen
    go_wp2_with fail
    refine wp_region_below w.heap.size (by kernel_rfl) (by kernel_rfl) ?_
    repeat (go_big_quiet_step (fail))
    refine wpQuiet_nil ?_
    intro w2 hB2
    have hB := hB1.trans hB2
    clear hB1 hB2
    go_wp2_with fail
    refine (PA.out _).mono ?_
    rintro e w3 ⟨rfl, hB3⟩
    go_wp2_with fail
    refine (PB.out _).mono ?_
    rintro e w4 ⟨rfl, hB4⟩
    have hB' := (hB.trans (hB3.mono hB.size)).trans (hB4.mono (Nat.le_trans hB.size hB3.size))
    clear hB hB3 hB4
    by_cases hmn : m = n
    · have g : (m == n) = true := by simp [hmn]
      clear hmn
      go_wp2
      go_ret
      exact ⟨rfl, hB'⟩
    · have g : (m == n) = false := by simp [hmn]
      by_cases hl : B.size < A.size
      · clear hmn
        go_wp2
        go_ret
        exact ⟨rfl, hB'⟩
      · have h5 := str_ne (HN.out hmn (by omega))
        clear hmn
        go_wp2
        go_ret
        exact ⟨rfl, hB'⟩
end Go.Proofs.Ytogoibpkohcgbaa
