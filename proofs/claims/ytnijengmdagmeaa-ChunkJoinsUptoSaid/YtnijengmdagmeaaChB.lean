/-
  Contract of firstLength.
-/
import Derived.Test.YtnijengmdagmeaaChA
namespace Go.Proofs.Ytnijengmdagmeaa
open Go.RowKit
set_option maxHeartbeats 400000

/-- a valid cutting as a value -/
def Cm.C.cells (c : Cm.C) : Array Value := #[.int .i64 (c.L : Nat), .int .i64 (c.M : Nat), .int .i64 (c.W : Nat), .int .i64 (c.K : Nat)]
def Cm.C.val (c : Cm.C) : Value := .agg c.cells

theorem Cm.take_list (s : ByteArray) (k : Nat) : (s.extract 0 k).data.toList = s.data.toList.take k := by
  simp [List.extract_eq_take_drop]
theorem Cm.drop_list (s : ByteArray) (k : Nat) : (s.extract k s.size).data.toList = s.data.toList.drop k := by
  simp [List.extract_eq_take_drop]
  exact List.take_of_length_le (by rw [List.length_drop]; simp)

set_option maxRecDepth 100000 in
theorem first_any (s : ByteArray) (c : Cm.C) (w : World) (hc : c.ok) (hs : s.size ≤ 100000) :
    Calls Try.prog 31 #[.string s, c.val] w fun e w' => e = .returned (.int .i64 (Cm.fl c s.data.toList : Nat)) ∧ Below w.heap.size w w' := by
  obtain ⟨L, M, W, K⟩ := c
  obtain ⟨h1, h2, h3, h4, h5, h6, h7⟩ := hc
  simp only at h1 h2 h3 h4 h5 h6 h7
  have hl : s.data.toList.length = s.size := by simp
  obtain ⟨m, hm⟩ : ∃ m, Cm.most ⟨L, M, W, K⟩ s.data.toList = m := ⟨_, rfl⟩
  obtain ⟨p, hp⟩ : ∃ p, Cm.at' ⟨L, M, W, K⟩ s.data.toList = p := ⟨_, rfl⟩
  have hI := Cm.fl_is ⟨L, M, W, K⟩ s.data.toList
  obtain ⟨r, hr⟩ : ∃ r, Cm.fl ⟨L, M, W, K⟩ s.data.toList = r := ⟨_, rfl⟩
  rw [hm, hp, hr] at hI
  simp only at hI
  rw [hr]
  have hm2 : min M s.size = m := by rw [← hm, Cm.most, hl]
  have hms : m ≤ s.size := by omega
  have hpk : ∀ k, k ≤ s.size → ∃ T u, s.extract 0 k = T ∧ T.size ≤ 100000 ∧ Cm.wt T.data.toList (W : Int).toNat = u ∧ u ≤ 256 * 100000 * 100000 ∧ (p k = true ↔ u % K = 0) := fun k hk => by
    refine ⟨_, _, rfl, by rw [ByteArray.size_extract]; omega, rfl, ?_, ?_⟩
    · have h := Cm.wt_le (s.extract 0 k).data.toList (W : Int).toNat
      have hq : (s.extract 0 k).data.toList.length ≤ 100000 := by rw [Cm.take_list, List.length_take]; omega
      have := Nat.mul_le_mul (Nat.mul_le_mul_left 256 hq) hq
      omega
    · rw [← hp, Cm.at', Cm.take_list]; simp
  have HI := Lib.hid hI
  have HP := Lib.hid hpk
  unfold Cm.C.val Cm.C.cells
  simp only
  clear hI hpk hp hr hm hl
  by_cases hM : s.size < M
  · obtain rfl : m = s.size := by omega
    clear hm2
    go_enter Try.func31, Try.ntmps31
    go_wp2
    have hB1 : Below w.heap.size w (w.alloc (.cells #[.int .i64 (L : Nat), .int .i64 (M : Nat), .int .i64 (W : Nat), .int .i64 (K : Nat)] 24)) := (Below.refl _ _).alloc (Nat.le_refl _) _
    have hc2 := cell_new_at w #[.int .i64 (L : Nat), .int .i64 (M : Nat), .int .i64 (W : Nat), .int .i64 (K : Nat)] 24 w.heap.size rfl 2
    have hc3 := cell_new_at w #[.int .i64 (L : Nat), .int .i64 (M : Nat), .int .i64 (W : Nat), .int .i64 (K : Nat)] 24 w.heap.size rfl 3
    simp only [List.getElem?_toArray, List.getElem?_cons_succ, List.getElem?_cons_zero] at hc2 hc3
    obtain ⟨B, hB⟩ : ∃ B, w.heap.size = B := ⟨_, rfl⟩
    rw [hB] at hc2 hc3 hB1 ⊢
    generalize w.alloc (.cells #[.int .i64 (L : Nat), .int .i64 (M : Nat), .int .i64 (W : Nat), .int .i64 (K : Nat)] 24) = w1 at hc2 hc3 hB1 ⊢
    have C2 := Lib.hid hc2
    have C3 := Lib.hid hc3
    have HB1 := Lib.hid hB1
    have HS := Lib.hid hB
    clear hc2 hc3 hB1 hB
    go_loopw [6] (fun i wr => ∃ k : Nat, L ≤ k ∧ i = .int .i64 k ∧ (∀ j, L ≤ j → j < k → j < s.size → p j = false) ∧ Below (B + 1) w1 wr) (fun i wr => s.size - (intOf i).toNat)
    case atStart => exact ⟨L, Nat.le_refl _, rfl, fun j h1 h2 => by omega, Below.refl _ _⟩
    case round =>
      obtain ⟨k, hk, rfl, hno, hBr⟩ := hrel
      by_cases hlt : k < s.size
      · obtain ⟨T, u, hT, hTs, hu, hub, hpk⟩ := HP.out k (by omega)
        obtain ⟨x, hx⟩ : ∃ x, u % K = x := ⟨_, rfl⟩
        have hxk : x < K := by rw [← hx]; exact Nat.mod_lt _ (by omega)
        have f1 : (u : Int).tmod (K : Int) = (x : Int) := by rw [Int.tmod_eq_emod_of_nonneg (by omega), ← hx]; simp
        have f2 : ¬ (K : Int) = 0 := by omega
        have f3 : (k : Int) ≤ (s.size : Int) := by omega
        have c2 := (hBr.cell (p := ⟨B, 2, none⟩) (by show B < B + 1; omega)).trans C2.out
        have c3 := (hBr.cell (p := ⟨B, 3, none⟩) (by show B < B + 1; omega)).trans C3.out
        have W1 := Lib.hid (fun V => hu ▸ weight_any T (W : Nat) V hTs (by omega) (by omega))
        rw [hx] at hpk
        obtain ⟨wo, hwo⟩ : ∃ wo : World, wo = wr := ⟨_, rfl⟩
        rw [← hwo] at hBr c2 c3 ⊢
        have HN := Lib.hid hno
        have HPk := Lib.hid hpk
        have HBr := Lib.hid hBr
        clear hwo hno hpk hBr hu hx
        by_cases h0 : x = 0
        · subst h0
          go_wp2
          go_quiet ((go_at_call 25; exact Calls.quiet_same (W1.out _)))
          go_wp2
          go_ret
          refine ⟨?_, by rw [HS.out]; exact HB1.out.trans ((HBr.out.mono (show B ≤ B + 1 by omega)).trans ⟨rfl, rfl, rfl, Nat.le_refl _, fun _ _ => rfl⟩)⟩
          have := HI.out.eq ⟨.inr ⟨hk, hlt, HPk.out.2 trivial⟩, HN.out⟩
          rw [this]; rfl
        · have g0 : ((x : Int) == 0) = false := beq_eq_false_iff_ne.2 (by omega)
          go_wp2
          go_quiet ((go_at_call 25; exact Calls.quiet_same (W1.out _)))
          go_wp2
          go_roundw
          case rel =>
            refine ⟨k + 1, by omega, by go_num, fun j h8 h9 h10 => ?_, HBr.out.trans ⟨rfl, rfl, rfl, Nat.le_refl _, fun _ _ => rfl⟩⟩
            by_cases hj : j = k
            · subst hj
              cases hpj : p j with
              | false => rfl
              | true => exact absurd (HPk.out.1 hpj) h0
            · exact HN.out j h8 (by omega) h10
          case measure => simp [intOf]; omega
      · have hF := HI.out.eq ⟨.inl rfl, fun i h8 h9 h10 => hno i h8 (by omega) h10⟩
        have HF := Lib.hid hF
        have HBr := Lib.hid hBr
        clear hF hno hBr
        go_wp2
        go_ret
        exact ⟨by rw [HF.out]; rfl, by rw [HS.out]; exact HB1.out.trans (HBr.out.mono (by omega))⟩
  · obtain rfl : m = M := by omega
    clear hm2
    go_enter Try.func31, Try.ntmps31
    go_wp2
    have hB1 : Below w.heap.size w (w.alloc (.cells #[.int .i64 (L : Nat), .int .i64 (m : Nat), .int .i64 (W : Nat), .int .i64 (K : Nat)] 24)) := (Below.refl _ _).alloc (Nat.le_refl _) _
    have hc2 := cell_new_at w #[.int .i64 (L : Nat), .int .i64 (m : Nat), .int .i64 (W : Nat), .int .i64 (K : Nat)] 24 w.heap.size rfl 2
    have hc3 := cell_new_at w #[.int .i64 (L : Nat), .int .i64 (m : Nat), .int .i64 (W : Nat), .int .i64 (K : Nat)] 24 w.heap.size rfl 3
    simp only [List.getElem?_toArray, List.getElem?_cons_succ, List.getElem?_cons_zero] at hc2 hc3
    obtain ⟨B, hB⟩ : ∃ B, w.heap.size = B := ⟨_, rfl⟩
    rw [hB] at hc2 hc3 hB1 ⊢
    generalize w.alloc (.cells #[.int .i64 (L : Nat), .int .i64 (m : Nat), .int .i64 (W : Nat), .int .i64 (K : Nat)] 24) = w1 at hc2 hc3 hB1 ⊢
    have C2 := Lib.hid hc2
    have C3 := Lib.hid hc3
    have HB1 := Lib.hid hB1
    have HS := Lib.hid hB
    clear hc2 hc3 hB1 hB
    go_loopw [6] (fun i wr => ∃ k : Nat, L ≤ k ∧ i = .int .i64 k ∧ (∀ j, L ≤ j → j < k → j < m → p j = false) ∧ Below (B + 1) w1 wr) (fun i wr => m - (intOf i).toNat)
    case atStart => exact ⟨L, Nat.le_refl _, rfl, fun j h1 h2 => by omega, Below.refl _ _⟩
    case round =>
      obtain ⟨k, hk, rfl, hno, hBr⟩ := hrel
      by_cases hlt : k < m
      · obtain ⟨T, u, hT, hTs, hu, hub, hpk⟩ := HP.out k (by omega)
        obtain ⟨x, hx⟩ : ∃ x, u % K = x := ⟨_, rfl⟩
        have hxk : x < K := by rw [← hx]; exact Nat.mod_lt _ (by omega)
        have f1 : (u : Int).tmod (K : Int) = (x : Int) := by rw [Int.tmod_eq_emod_of_nonneg (by omega), ← hx]; simp
        have f2 : ¬ (K : Int) = 0 := by omega
        have f3 : (k : Int) ≤ (s.size : Int) := by omega
        have c2 := (hBr.cell (p := ⟨B, 2, none⟩) (by show B < B + 1; omega)).trans C2.out
        have c3 := (hBr.cell (p := ⟨B, 3, none⟩) (by show B < B + 1; omega)).trans C3.out
        have W1 := Lib.hid (fun V => hu ▸ weight_any T (W : Nat) V hTs (by omega) (by omega))
        rw [hx] at hpk
        obtain ⟨wo, hwo⟩ : ∃ wo : World, wo = wr := ⟨_, rfl⟩
        rw [← hwo] at hBr c2 c3 ⊢
        have HN := Lib.hid hno
        have HPk := Lib.hid hpk
        have HBr := Lib.hid hBr
        clear hwo hno hpk hBr hu hx
        by_cases h0 : x = 0
        · subst h0
          go_wp2
          go_quiet ((go_at_call 25; exact Calls.quiet_same (W1.out _)))
          go_wp2
          go_ret
          refine ⟨?_, by rw [HS.out]; exact HB1.out.trans ((HBr.out.mono (show B ≤ B + 1 by omega)).trans ⟨rfl, rfl, rfl, Nat.le_refl _, fun _ _ => rfl⟩)⟩
          have := HI.out.eq ⟨.inr ⟨hk, hlt, HPk.out.2 trivial⟩, HN.out⟩
          rw [this]; rfl
        · have g0 : ((x : Int) == 0) = false := beq_eq_false_iff_ne.2 (by omega)
          go_wp2
          go_quiet ((go_at_call 25; exact Calls.quiet_same (W1.out _)))
          go_wp2
          go_roundw
          case rel =>
            refine ⟨k + 1, by omega, by go_num, fun j h8 h9 h10 => ?_, HBr.out.trans ⟨rfl, rfl, rfl, Nat.le_refl _, fun _ _ => rfl⟩⟩
            by_cases hj : j = k
            · subst hj
              cases hpj : p j with
              | false => rfl
              | true => exact absurd (HPk.out.1 hpj) h0
            · exact HN.out j h8 (by omega) h10
          case measure => simp [intOf]; omega
      · have hF := HI.out.eq ⟨.inl rfl, fun i h8 h9 h10 => hno i h8 (by omega) h10⟩
        have HF := Lib.hid hF
        have HBr := Lib.hid hBr
        clear hF hno hBr
        go_wp2
        go_ret
        exact ⟨by rw [HF.out]; rfl, by rw [HS.out]; exact HB1.out.trans (HBr.out.mono (by omega))⟩

end Go.Proofs.Ytnijengmdagmeaa
