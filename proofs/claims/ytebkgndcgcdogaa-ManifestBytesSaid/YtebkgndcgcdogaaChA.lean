/-
  Contracts of chunk's and the reference's Weight, Check and of firstLength.
-/
import Derived.Test.YtebkgndcgcdogaaRows
import Derived.Test.YtebkgndcgcdogaaCm
import Derived.Test.YtebkgndcgcdogaaKit
import Derived.WalkKit
import Derived.WalkSpells
import Derived.Handy
import Derived.BigQuiet
import Derived.Deep.QuietTactic
import Derived.Lib.Hide
namespace Go.Proofs.Ytebkgndcgcdogaa
open Go.RowKit
set_option maxHeartbeats 400000

/-- the last bytes of a text -/
theorem Cm.last (s : ByteArray) (m : Nat) (hm : m ≤ s.size) : ∃ T : ByteArray, s.extract (s.size - m) s.size = T ∧ T.size = m ∧ ∀ i (h : i < T.size), (T[i]'h).toNat = Cm.by' s.data.toList (s.data.toList.length - m + i) := by
  refine ⟨_, rfl, by rw [ByteArray.size_extract]; omega, fun i h => ?_⟩
  have hl : s.data.toList.length = s.size := by simp
  have hi : i < m := by rw [ByteArray.size_extract] at h; omega
  rw [hl, Cm.by', List.getD_eq_getElem?_getD, List.getElem?_eq_getElem (by rw [hl]; omega)]
  rw [ByteArray.getElem_extract]
  rfl

set_option maxRecDepth 100000 in
/-- Weight of the reference -/
theorem rweight_any (s : ByteArray) (n : Int) (w : World) (hs : s.size ≤ 100000) (h0 : -9223372036854775808 ≤ n) (h1 : n ≤ 9223372036854775807) :
    Calls Try.prog 77 #[.string s, .int .i64 n] w fun e w' => e = .returned (.int .i64 (Cm.wt s.data.toList n.toNat : Nat)) ∧ w = w' := by
  have hl : s.data.toList.length = s.size := by simp
  by_cases hn : n < 1
  · have HF := Lib.hid (show Cm.wt s.data.toList n.toNat = 0 by
      have : n.toNat = 0 := by omega
      unfold Cm.wt; rw [this, Nat.zero_min]; rfl)
    clear hl
    go_enter Try.func77, Try.ntmps77
    go_wp2
    go_ret
    exact ⟨by rw [HF.out]; rfl, rfl⟩
  obtain ⟨N, rfl⟩ := Int.eq_ofNat_of_zero_le (show 0 ≤ n by omega)
  obtain ⟨q, hq⟩ : ∃ q, s.size - min N s.size = q := ⟨_, rfl⟩
  obtain ⟨m, hm⟩ : ∃ m, min N s.size = m := ⟨_, rfl⟩
  obtain ⟨f, hf⟩ : ∃ f, Cm.by' s.data.toList = f := ⟨_, rfl⟩
  have hW : Cm.wt s.data.toList (N : Int).toNat = Cm.ws (fun i => f (q + i)) m := by unfold Cm.wt; rw [hl, show (N : Int).toNat = N from rfl, hq, hm, hf]
  obtain ⟨g, hg⟩ : ∃ g : Nat → Nat, (fun i => f (q + i)) = g := ⟨_, rfl⟩
  have hfb : ∀ i, f i ≤ 255 := fun i => by rw [← hf]; exact Cm.by_lt _ _
  have hgb : ∀ i, g i ≤ 255 := fun i => by rw [← hg]; exact hfb _
  have hwb : ∀ k, k ≤ m → Cm.ws g k ≤ 256 * 100000 * 100000 := fun k hk => by
    have h := Cm.ws_le hgb k
    have h2 := Nat.mul_le_mul (Nat.mul_le_mul_left 256 (show k ≤ 100000 by omega)) (show k ≤ 100000 by omega)
    omega
  have hb : ∀ i (h : q + i < s.size), (s[q + i]'h).toNat = g i := fun i h => by
    rw [← hg]; simp only; rw [← hf, Cm.by', List.getD_eq_getElem?_getD, List.getElem?_eq_getElem (by rw [hl]; omega)]; rfl
  rw [hW, hg]
  have hqm : q + m = s.size := by omega
  have e1 : (if (s.size : Int) - (N : Int) < 0 then 0 else (s.size : Int) - (N : Int)) = (q : Int) := by split <;> omega
  have HB := Lib.hid hb
  have HW := Lib.hid hwb
  have HG := Lib.hid hgb
  have HQ := Lib.hid hqm
  by_cases hs2 : s.size ≤ N
  · obtain rfl : q = 0 := by omega
    obtain rfl : m = s.size := by omega
    clear hb hwb hgb hW hm hf hfb hg hl hq hqm e1
    go_enter Try.func77, Try.ntmps77
    go_wp2
    go_loop [6, 7] (fun a i => ∃ k : Nat, k ≤ s.size ∧ i = .int .i64 k ∧ a = .int .i64 (Cm.ws g k : Nat)) (fun a i => s.size - (intOf i).toNat)
    case atStart => exact ⟨0, by omega, rfl, rfl⟩
    case round =>
      obtain ⟨k, hk, rfl, rfl⟩ := hrel
      by_cases hlt : k < s.size
      · have hb := HB.out k (by omega)
        have hg := HG.out k
        have hw := HW.out k hk
        have hw2 := HW.out (k + 1) hlt
        obtain ⟨u, hu⟩ : ∃ u, Cm.ws g k = u := ⟨_, rfl⟩
        obtain ⟨b, hb2⟩ : ∃ b, g k = b := ⟨_, rfl⟩
        obtain ⟨p, hp⟩ : ∃ p, (b + 1) * (k + 1) = p := ⟨_, rfl⟩
        have hws : Cm.ws g (k + 1) = u + p := by rw [Cm.ws, hu, hb2, hp]
        have hp2 : ((b : Int) + 1) * ((k : Int) + 1) = (p : Int) := by rw [← hp]; simp
        rw [hws] at hw2
        rw [hb2] at hb hg
        rw [hu]
        have hbt : ∀ h : k < s.size, (s[k]'h).toNat = b := fun h => by have e : 0 + k = k := Nat.zero_add k; simp only [e] at hb; exact hb
        have HX := Lib.hid hws
        clear hws hp hb hu hb2 hw
        go_wp2
        go_round
        case rel => exact ⟨k + 1, by omega, by go_num, by rw [HX.out]; go_num⟩
        case measure => simp [intOf]; omega
      · obtain rfl : k = s.size := by omega
        go_wp2
        go_ret
        exact ⟨rfl, rfl⟩
  · have c1 : (0 : Int) < (q : Int) := by omega
    have c3 : (s.size : Int) - (N : Int) = (q : Int) := by omega
    clear hb hwb hgb hW hm hf hfb hg hl hq hqm e1
    go_enter Try.func77, Try.ntmps77
    go_wp2
    go_loop [6, 7] (fun a i => ∃ k : Nat, k ≤ m ∧ i = .int .i64 ((q + k : Nat) : Int) ∧ a = .int .i64 (Cm.ws g k : Nat)) (fun a i => s.size - (intOf i).toNat)
    case atStart => exact ⟨0, by omega, rfl, rfl⟩
    case round =>
      obtain ⟨k, hk, rfl, rfl⟩ := hrel
      have hq := HQ.out
      by_cases hlt : k < m
      · have hlt2 : q + k < s.size := by omega
        have hb := HB.out k hlt2
        have hg := HG.out k
        have hw := HW.out k hk
        have hw2 := HW.out (k + 1) hlt
        obtain ⟨u, hu⟩ : ∃ u, Cm.ws g k = u := ⟨_, rfl⟩
        obtain ⟨b, hb2⟩ : ∃ b, g k = b := ⟨_, rfl⟩
        obtain ⟨p, hp⟩ : ∃ p, (b + 1) * (k + 1) = p := ⟨_, rfl⟩
        have hws : Cm.ws g (k + 1) = u + p := by rw [Cm.ws, hu, hb2, hp]
        have hp2 : ((b : Int) + 1) * ((k : Int) + 1) = (p : Int) := by rw [← hp]; simp
        rw [hws] at hw2
        rw [hb2] at hb hg
        rw [hu]
        obtain ⟨j, hj⟩ : ∃ j, q + k = j := ⟨_, rfl⟩
        have hbt : ∀ h : j < s.size, (s[j]'h).toNat = b := fun h => by subst hj; exact hb
        have e1 : (j : Int) - (q : Int) = (k : Int) := by omega
        rw [hj] at hlt2 ⊢
        have HX := Lib.hid hws
        have HJ := Lib.hid hj
        clear hws hp hb hu hb2 hw hj hq
        go_wp2
        go_round
        case rel => exact ⟨k + 1, by omega, by rw [← Nat.add_assoc, HJ.out]; go_num, by rw [HX.out]; go_num⟩
        case measure => simp [intOf]; omega
      · obtain rfl : k = m := by omega
        rw [hq]
        clear hq
        go_wp2
        go_ret
        exact ⟨rfl, rfl⟩

/-- is a cutting valid -/
def Cm.okB (a b c d : Int) : Bool := decide (4 ≤ a ∧ a ≤ b ∧ b ≤ 256 ∧ 1 ≤ c ∧ c ≤ a ∧ 1 ≤ d ∧ d ≤ 1024)
/-- what Check answers -/
def Cm.chk (a b c d : Int) : Int := if Cm.okB a b c d then 0 else 1

/-- Check of the reference -/
theorem rcheck_any (a b c d : Int) (w : World) :
    Calls Try.prog 76 #[.agg #[.int .i64 a, .int .i64 b, .int .i64 c, .int .i64 d]] w fun e w' => e = .returned (.int .i64 (Cm.chk a b c d)) ∧ Below w.heap.size w w' := by
  by_cases h1 : a < 4
  · have HF := Lib.hid (show Cm.chk a b c d = 1 by unfold Cm.chk Cm.okB; rw [if_neg (by simp; omega)])
    go_enter Try.func76, Try.ntmps76
    go_wp2
    go_ret
    exact ⟨by rw [HF.out]; rfl, (Below.refl _ _).alloc (Nat.le_refl _) _⟩
  by_cases h2 : b < a
  · have HF := Lib.hid (show Cm.chk a b c d = 1 by unfold Cm.chk Cm.okB; rw [if_neg (by simp; omega)])
    go_enter Try.func76, Try.ntmps76
    go_wp2
    go_ret
    exact ⟨by rw [HF.out]; rfl, (Below.refl _ _).alloc (Nat.le_refl _) _⟩
  by_cases h3 : 256 < b
  · have HF := Lib.hid (show Cm.chk a b c d = 1 by unfold Cm.chk Cm.okB; rw [if_neg (by simp; omega)])
    go_enter Try.func76, Try.ntmps76
    go_wp2
    go_ret
    exact ⟨by rw [HF.out]; rfl, (Below.refl _ _).alloc (Nat.le_refl _) _⟩
  by_cases h4 : c < 1
  · have HF := Lib.hid (show Cm.chk a b c d = 1 by unfold Cm.chk Cm.okB; rw [if_neg (by simp; omega)])
    go_enter Try.func76, Try.ntmps76
    go_wp2
    go_ret
    exact ⟨by rw [HF.out]; rfl, (Below.refl _ _).alloc (Nat.le_refl _) _⟩
  by_cases h5 : a < c
  · have HF := Lib.hid (show Cm.chk a b c d = 1 by unfold Cm.chk Cm.okB; rw [if_neg (by simp; omega)])
    go_enter Try.func76, Try.ntmps76
    go_wp2
    go_ret
    exact ⟨by rw [HF.out]; rfl, (Below.refl _ _).alloc (Nat.le_refl _) _⟩
  by_cases h6 : d < 1
  · have HF := Lib.hid (show Cm.chk a b c d = 1 by unfold Cm.chk Cm.okB; rw [if_neg (by simp; omega)])
    go_enter Try.func76, Try.ntmps76
    go_wp2
    go_ret
    exact ⟨by rw [HF.out]; rfl, (Below.refl _ _).alloc (Nat.le_refl _) _⟩
  by_cases h7 : 1024 < d
  · have HF := Lib.hid (show Cm.chk a b c d = 1 by unfold Cm.chk Cm.okB; rw [if_neg (by simp; omega)])
    go_enter Try.func76, Try.ntmps76
    go_wp2
    go_ret
    exact ⟨by rw [HF.out]; rfl, (Below.refl _ _).alloc (Nat.le_refl _) _⟩
  have HF := Lib.hid (show Cm.chk a b c d = 0 by unfold Cm.chk Cm.okB; rw [if_pos (by simp; omega)])
  go_enter Try.func76, Try.ntmps76
  go_wp2
  go_ret
  exact ⟨by rw [HF.out]; rfl, (Below.refl _ _).alloc (Nat.le_refl _) _⟩

end Go.Proofs.Ytebkgndcgcdogaa
