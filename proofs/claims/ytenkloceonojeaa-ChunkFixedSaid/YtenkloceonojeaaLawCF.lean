/-
  ChunkFixed: its walk.
-/
import Derived.Test.YtenkloceonojeaaLawCW
import Derived.Test.YtenkloceonojeaaChF
namespace Go.Proofs.Ytenkloceonojeaa
open Go.RowKit
set_option maxHeartbeats 2000000

theorem Cm.cut_len_fixed {c : Cm.C} (hc : c.ok) (n : Nat) (hn : 1 ≤ n) (hf : ∀ s, s ≠ [] → Cm.fl c s = min n s.length) (s : List UInt8) : (Cm.cut c s).length = (s.length + n - 1) / n := by
  refine Cm.along hc (P := fun s => (Cm.cut c s).length = (s.length + n - 1) / n) ?_ (fun s h ih => ?_) s
  · rw [Cm.cut_nil]; simp only [List.length_nil]; rw [Nat.div_eq_of_lt (by omega)]
  · have hl : 0 < s.length := List.length_pos_iff.2 h
    rw [Cm.cut_cons hc h, List.length_cons, ih, List.length_drop, hf s h]
    by_cases h1 : n ≤ s.length
    · rw [Nat.min_eq_left h1, show s.length + n - 1 = (s.length - n + n - 1) + n by omega, Nat.add_div_right _ (by omega)]
    · rw [Nat.min_eq_right (by omega), Nat.sub_self, Nat.div_eq_of_lt (by omega)]
      symm
      rw [Nat.div_eq_iff (by omega)]
      constructor <;> omega
theorem Cm.cut_same {c d : Cm.C} (n : Nat) (hf : ∀ s, s ≠ [] → Cm.fl c s = min n s.length) (hg : ∀ s, s ≠ [] → Cm.fl d s = min n s.length) (s : List UInt8) : Cm.cut c s = Cm.cut d s := by
  unfold Cm.cut; rw [Cm.cut_fixed n hf, Cm.cut_fixed n hg]
theorem Cm.fixed_size {c : Cm.C} (hc : c.ok) (n : Nat) (hf : ∀ s, s ≠ [] → Cm.fl c s = min n s.length) (s : List UInt8) (i : Nat) (h : i < (Cm.cut c s).length) (hi : i + 1 < (Cm.cut c s).length) : ((Cm.cut c s)[i]).length = n := by
  obtain ⟨r, h0, _, hx, _, hl⟩ := Cm.cut_at hc i s h
  have := hl hi
  rw [hx, List.length_take]
  rw [hf r h0] at this ⊢
  omega

set_option maxRecDepth 100000 in
theorem chunkFixed_walk (s : ByteArray) (a b d : Int) (w : World) (_ : s.size ≤ 140737488351232) (ha0 : 0 ≤ a) (ha1 : a ≤ 255) (hb0 : 0 ≤ b) (hb1 : b ≤ 255) (hd0 : 0 ≤ d) (hd1 : d ≤ 255) :
    Calls Try.prog 9 #[.string s, .int .u8 a, .int .u8 b, .int .u8 d] w fun e w' => e = .returned (.bool true) ∧ Below w.heap.size w w' := by
  obtain ⟨a, rfl⟩ := Int.eq_ofNat_of_zero_le ha0
  obtain ⟨b, rfl⟩ := Int.eq_ofNat_of_zero_le hb0
  obtain ⟨d, rfl⟩ := Int.eq_ofNat_of_zero_le hd0
  obtain ⟨la, hla⟩ : ∃ x, a % 60 = x := ⟨_, rfl⟩
  obtain ⟨ld, hld⟩ : ∃ x, d % 60 = x := ⟨_, rfl⟩
  have f1 : (a : Int).tmod 60 = (la : Int) := by rw [Int.tmod_eq_emod_of_nonneg (by omega), ← hla]; simp
  have f2 : (d : Int).tmod 60 = (ld : Int) := by rw [Int.tmod_eq_emod_of_nonneg (by omega), ← hld]; simp
  have f3 : (a : Int) % 60 = (la : Int) := by omega
  have f4 : (d : Int) % 60 = (ld : Int) := by omega
  have la1 : la < 60 := by omega
  have ld1 : ld < 60 := by omega
  clear hla hld
  by_cases hbig : 800 < s.size
  · go_enter Try.func9, Try.ntmps9
    go_wp2_with fail
    refine (csane_any _).mono ?_
    rintro e w1 ⟨rfl, hB1⟩
    go_wp2
    go_ret
    exact ⟨rfl, hB1⟩
  obtain ⟨N, hN⟩ : ∃ N, 4 + la = N := ⟨_, rfl⟩
  obtain ⟨M, hM⟩ : ∃ M, N + ld = M := ⟨_, rfl⟩
  obtain ⟨K, hK⟩ : ∃ K, 1 + b = K := ⟨_, rfl⟩
  have e1 : (4 : Int) + (la : Int) = (N : Int) := by omega
  have e2 : (N : Int) + (ld : Int) = (M : Int) := by omega
  have e3 : (1 : Int) + (b : Int) = (K : Int) := by omega
  have ok1 : Cm.C.ok ⟨N, M, 1, 1⟩ := ⟨by show 4 ≤ N; omega, by show N ≤ M; omega, by show M ≤ 256; omega, Nat.le_refl 1, by show 1 ≤ N; omega, Nat.le_refl 1, by show 1 ≤ 1024; omega⟩
  have ok2 : Cm.C.ok ⟨N, N, N, K⟩ := ⟨by show 4 ≤ N; omega, Nat.le_refl _, by show N ≤ 256; omega, by show 1 ≤ N; omega, Nat.le_refl _, by show 1 ≤ K; omega, by show K ≤ 1024; omega⟩
  have x1 : ∀ s : List UInt8, s ≠ [] → Cm.fl ⟨N, M, 1, 1⟩ s = min N s.length := fun s _ => Cm.fl_one (c := ⟨N, M, 1, 1⟩) ok1 rfl s
  have x2 : ∀ s : List UInt8, s ≠ [] → Cm.fl ⟨N, N, N, K⟩ s = min N s.length := fun s _ => Cm.fl_even (c := ⟨N, N, N, K⟩) rfl s
  have hsame := Cm.cut_same N x1 x2 s.data.toList
  have hlen := Cm.cut_len_fixed ok1 N (by omega) x1 s.data.toList
  have hfix := Cm.fixed_size ok1 N x1 s.data.toList
  have hsm := Cm.cut_small ok1 s.data.toList
  have C1 := Lib.hid (fun V => cut_short s N M 1 1 V ok1 (by omega))
  have C2 := Lib.hid (fun V => cut_short s N N N K V ok2 (by omega))
  rw [← hsame] at C2
  obtain ⟨l, hl⟩ : ∃ l, Cm.cut ⟨N, M, 1, 1⟩ s.data.toList = l := ⟨_, rfl⟩
  obtain ⟨m, hm⟩ : ∃ m, l.length = m := ⟨_, rfl⟩
  rw [hl] at hfix hlen hsm C1 C2
  rw [hm] at hlen C1 C2
  rw [size_list] at hlen
  have hN1 : 4 ≤ N := by omega
  have hN2 : N ≤ 63 := by omega
  have hq : (s.size : Int) + (N : Int) - 1 = ((s.size + N - 1 : Nat) : Int) := by omega
  have hq2 : ((s.size : Int) + (N : Int) - 1).tdiv (N : Int) = (m : Int) := by
    rw [hq, Int.tdiv_eq_ediv_of_nonneg (by omega), hlen]; simp
  have hm2 : m ≤ 900 := by rw [hlen]; exact Nat.le_trans (Nat.div_le_self _ _) (by omega)
  have hN0 : ¬ (N : Int) = 0 := by omega
  have HM := Lib.hid hm
  have HF := Lib.hid hfix
  have HSM := Lib.hid hsm
  have S1 := Lib.hid (fun V A c A' c' (h : CellsIn V A m c (l.map Cm.str)) (h' : CellsIn V A' m c' (l.map Cm.str)) => csame_any A A' m m c c' l l V h h' (by omega) (by omega))
  have K1 := Lib.hid (show (1 : Int) = ((1 : Nat) : Int) from rfl)
  have D1 := Lib.hid (show decide (l = l) = true from decide_eq_true rfl)
  clear hN hM hK ok1 ok2 x1 x2 hsame hlen hfix hl hm hq hsm
  go_enter Try.func9, Try.ntmps9
  go_wp2_with fail
  refine (csane_any _).mono ?_
  rintro e w1 ⟨rfl, hB1⟩
  go_wp2_with fail
  refine (C1.out _).mono ?_
  rintro e w2 ⟨A, c, rfl, hci, hB2⟩
  have HB2 := Lib.hid (hB1.trans (hB2.mono hB1.size))
  have HC := Lib.hid hci
  clear hB1 hB2 hci
  go_wp2_with fail
  refine (C2.out _).mono ?_
  rintro e w3 ⟨A', c', rfl, hci', hB3⟩
  have HC1 := Lib.hid (HC.out.below hB3)
  have HC2 := Lib.hid hci'
  have HB3 := Lib.hid (HB2.out.trans (hB3.mono HB2.out.size))
  clear hB3 hci' HC HB2
  go_wp2_with fail
  refine (S1.out _ _ _ _ _ HC1.out HC2.out).mono ?_
  rintro e w4 ⟨rfl, hB4⟩
  rw [D1.out]
  have HC4 := Lib.hid (HC1.out.below hB4)
  have HB4 := Lib.hid (HB3.out.trans (hB4.mono HB3.out.size))
  clear hB4 HC1 HC2 HB3 S1 C1 C2
  go_wp2_with fail
  go_loop [75] (fun i => ∃ k : Nat, k ≤ m ∧ i = .int .i64 k) (fun i => m - (intOf i).toNat)
  case atStart => exact ⟨0, by omega, rfl⟩
  case round =>
    obtain ⟨k, hk, rfl⟩ := hrel
    by_cases hlt : k < m
    · obtain ⟨gl, o, rfl, hgl, hzl, g1⟩ := HC4.out.at hlt
      rw [List.getElem_map] at g1
      have hkl : k < l.length := by rw [HM.out]; exact hlt
      have hf := HF.out k hkl
      have hxm := (HSM.out _ (List.getElem_mem hkl)).2
      obtain ⟨x, hx⟩ : ∃ x, l[k] = x := ⟨_, rfl⟩
      rw [hx] at hf hxm g1
      rw [HM.out] at hf
      obtain ⟨X, hX⟩ : ∃ X, Cm.b x = X := ⟨_, rfl⟩
      have hXs : x.length = X.size := by rw [← hX]; rfl
      unfold Cm.str at g1
      rw [hX] at g1
      rw [hXs] at hf hxm
      have i0 : (0 : Int) ≤ (k : Int) := by omega
      have i1 : (k : Int) < (m : Int) := by omega
      clear hx hX hXs hkl hzl hgl
      by_cases hlast : k + 1 < m
      · have d2 : (k : Int) < (m : Int) - 1 := by omega
        have hXN := hf hlast
        have d3 : ((X.size : Int) == (N : Int)) = true := beq_iff_eq.2 (by omega)
        have d4 : ((X.size : Int) != (N : Int)) = false := by rw [bne, d3]; rfl
        clear hf hXN
        go_wp2
        go_round
        case rel => exact ⟨k + 1, by omega, by go_num⟩
        case measure => simp [intOf]; omega
      · have d2 : decide ((k : Int) < (m : Int) - 1) = false := by simp; omega
        clear hf
        go_wp2
        go_round
        case rel => exact ⟨k + 1, by omega, by go_num⟩
        case measure => simp [intOf]; omega
    · obtain rfl : k = m := by omega
      go_wp2
      go_ret
      exact ⟨rfl, HB4.out⟩

end Go.Proofs.Ytenkloceonojeaa
