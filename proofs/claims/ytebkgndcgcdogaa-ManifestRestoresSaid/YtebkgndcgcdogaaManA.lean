/-
  slices.Equal at names.
  Contracts of manifest: checkHead, sized, Check, name, Size, Same.
-/
import Derived.Test.YtebkgndcgcdogaaVd
namespace Go.Proofs.Ytebkgndcgcdogaa
open Go.RowKit
set_option maxHeartbeats 4000000

theorem eqN_any (A A' : Option Addr) (n n' c c' : Nat) (l l' : List Vm.Nm) (w : World) (hl : NamesIn w A n c l) (hl' : NamesIn w A' n' c' l') (hn : n ≤ 17592186044416) (hn' : n' ≤ 17592186044416) :
    Calls Try.prog 51 #[.slice A n c, .slice A' n' c'] w fun e w' => e = .returned (.bool (decide (l = l'))) ∧ Below w.heap.size w w' := by
  by_cases hnn : n = n'
  · subst hnn
    have b0 : ((n : Int) != (n : Int)) = false := by simp
    have HL := Lib.hid hl
    have HL' := Lib.hid hl'
    clear hl hl'
    go_enter Try.func51, Try.ntmps51
    go_wp2_with fail
    go_loopw [13] (fun i wq => ∃ a q : Nat, a ≤ n ∧ i = .int .i64 a ∧ wq = w.drewN q ∧ ∀ j (h : j < l.length) (h' : j < l'.length), j < a → l[j] = l'[j]) (fun i _ => n - (intOf i).toNat)
    case atStart => exact ⟨0, 0, by omega, rfl, rfl, fun j _ _ h => absurd h (by omega)⟩
    case round =>
      obtain ⟨a, q, ha, rfl, rfl, hin⟩ := hrel
      have HIN := Lib.hid hin
      clear hin
      by_cases hlt : a < n
      · have d9 : decide ((a : Int) < (n : Int)) = true := by simp; omega
        obtain ⟨g, o, rfl, hg, hz, y0, y1⟩ := HL.out.at hlt
        obtain ⟨g', o', rfl, hg', hz', y0', y1'⟩ := HL'.out.at hlt
        obtain ⟨x, hx⟩ : ∃ x, l[a] = x := ⟨_, rfl⟩
        obtain ⟨x', hx'⟩ : ∃ x, l'[a] = x := ⟨_, rfl⟩
        rw [hx] at y0 y1
        rw [hx'] at y0' y1'
        obtain ⟨p0, p1⟩ := x
        obtain ⟨p0', p1'⟩ := x'
        simp only at y0 y1 y0' y1'
        have j3 : (0 : Int) ≤ (a : Int) := by omega
        have j4 : (a : Int) < (n : Int) := by omega
        by_cases he : (p0, p1) = (p0', p1')
        · obtain ⟨rfl, rfl⟩ : p0 = p0' ∧ p1 = p1' := by injection he with h1 h2; exact ⟨h1, h2⟩
          have HN := Lib.hid (show ∀ j (h : j < l.length) (h' : j < l'.length), j < a + 1 → l[j] = l'[j] from fun j h h' hj => by
            by_cases e : j = a
            · subst e; rw [hx, hx']
            · exact HIN.out j h h' (by omega))
          clear hx hx' hg hg' he hz hz'
          go_wp2_with fail
          go_quiet (fail)
          go_wp2_with fail
          go_roundw
          case rel => exact ⟨a + 1, _, by omega, by go_num, rfl, HN.out⟩
          case measure => simp [intOf]; omega
        · have hq := name_ne he
          have HF := Lib.hid (show decide (l = l') = false from decide_eq_false (fun e => he (by subst e; rw [← hx, ← hx'])))
          clear hx hx' hg hg' he hz hz'
          go_wp2_with fail
          go_quiet (fail)
          go_wp2_with fail
          go_ret
          exact ⟨by rw [HF.out]; rfl, Below.drewN' (Below.drewN' (Below.refl _ _) _) _⟩
      · obtain rfl : a = n := by omega
        have d9 : decide ((a : Int) < (a : Int)) = false := by simp
        have HF := Lib.hid (show decide (l = l') = true from decide_eq_true (List.ext_getElem (by rw [HL.out.1, HL'.out.1]) (fun i h h' => HIN.out i h h' (by rw [HL.out.1] at h; exact h))))
        go_wp2_with fail
        go_ret
        exact ⟨by rw [HF.out]; rfl, Below.drewN' (Below.refl _ _) _⟩
  · have b0 : ((n : Int) != (n' : Int)) = true := by simp; omega
    have b1 : ((n : Int) == (n' : Int)) = false := by simp; omega
    have HF := Lib.hid (show decide (l = l') = false from decide_eq_false (fun e => hnn (by rw [← hl.1, ← hl'.1, e])))
    go_enter Try.func51, Try.ntmps51
    go_wp2_with fail
    go_ret
    exact ⟨by rw [HF.out]; rfl, Below.refl _ _⟩

end Go.Proofs.Ytebkgndcgcdogaa

namespace Go.Proofs.Ytebkgndcgcdogaa
open Go.RowKit
set_option maxHeartbeats 2000000

def Vm.head (a b : Int) : Int := if a < 1 ∨ 2147483647 ≤ a then 1 else if 256 < b then 4 else 0

theorem mhead_any (a b : Int) (w : World) :
    Calls Try.prog 41 #[.int .i64 a, .int .i64 b] w fun e w' => e = .returned (.int .i64 (Vm.head a b)) ∧ w' = w := by
  by_cases h1 : a < 1
  · have HF := Lib.hid (show Vm.head a b = 1 by unfold Vm.head; rw [if_pos (.inl h1)])
    have e1 : decide (a < 1) = true := by simpa using h1
    go_enter Try.func41, Try.ntmps41
    go_wp2
    go_ret
    exact ⟨by rw [HF.out]; rfl, rfl⟩
  by_cases h2 : 2147483647 ≤ a
  · have HF := Lib.hid (show Vm.head a b = 1 by unfold Vm.head; rw [if_pos (.inr h2)])
    have e1 : decide (a < 1) = false := by simpa using h1
    have e2 : decide (2147483647 ≤ a) = true := by simpa using h2
    go_enter Try.func41, Try.ntmps41
    go_wp2
    go_ret
    exact ⟨by rw [HF.out]; rfl, rfl⟩
  have e1 : decide (a < 1) = false := by simpa using h1
  have e2 : decide (2147483647 ≤ a) = false := by simpa using h2
  by_cases h3 : 256 < b
  · have HF := Lib.hid (show Vm.head a b = 4 by unfold Vm.head; rw [if_neg (by omega), if_pos h3])
    have e3 : decide (256 < b) = true := by simpa using h3
    go_enter Try.func41, Try.ntmps41
    go_wp2
    go_ret
    exact ⟨by rw [HF.out]; rfl, rfl⟩
  · have HF := Lib.hid (show Vm.head a b = 0 by unfold Vm.head; rw [if_neg (by omega), if_neg h3])
    have e3 : decide (256 < b) = false := by simpa using h3
    go_enter Try.func41, Try.ntmps41
    go_wp2
    go_ret
    exact ⟨by rw [HF.out]; rfl, rfl⟩

def Vm.szd (x : Int) : Bool := decide (1 ≤ x ∧ x ≤ 256)

theorem msized_any (x : Int) (w : World) :
    Calls Try.prog 42 #[.int .i64 x] w fun e w' => e = .returned (.bool (Vm.szd x)) ∧ w' = w := by
  by_cases h1 : 1 ≤ x
  · have e1 : decide (1 ≤ x) = true := by simpa using h1
    by_cases h2 : x ≤ 256
    · have HF := Lib.hid (show Vm.szd x = true by unfold Vm.szd; simp [h1, h2])
      have e2 : decide (x ≤ 256) = true := by simpa using h2
      go_enter Try.func42, Try.ntmps42
      go_wp2
      go_ret
      exact ⟨by rw [HF.out]; rfl, rfl⟩
    · have HF := Lib.hid (show Vm.szd x = false by unfold Vm.szd; simp; omega)
      have e2 : decide (x ≤ 256) = false := by simpa using h2
      go_enter Try.func42, Try.ntmps42
      go_wp2
      go_ret
      exact ⟨by rw [HF.out]; rfl, rfl⟩
  · have HF := Lib.hid (show Vm.szd x = false by unfold Vm.szd; simp; omega)
    have e1 : decide (1 ≤ x) = false := by simpa using h1
    go_enter Try.func42, Try.ntmps42
    go_wp2
    go_ret
    exact ⟨by rw [HF.out]; rfl, rfl⟩

theorem Vm.chk_head {num : Int} {l : List Vm.Nm} {n : Nat} (hl : l.length = n) (h : Vm.head num n ≠ 0) : Vm.chk num l = Vm.head num n := by
  subst hl
  unfold Vm.head at h ⊢
  unfold Vm.chk
  by_cases h1 : num < 1 ∨ 2147483647 ≤ num
  · rw [if_pos h1, if_pos h1]
  · rw [if_neg h1] at h
    rw [if_neg h1, if_neg h1]
    by_cases h2 : 256 < l.length
    · rw [if_pos h2, if_pos (by omega)]
    · rw [if_neg (by omega)] at h; exact absurd rfl h
theorem Vm.head_zero {num : Int} {n : Nat} (h : Vm.head num n = 0) : ¬ (num < 1 ∨ 2147483647 ≤ num) ∧ ¬ 256 < n := by
  unfold Vm.head at h
  split at h
  · cases h
  · split at h
    · cases h
    · rename_i h1 h2; exact ⟨h1, by omega⟩

set_option maxRecDepth 100000 in
theorem mchk_any (num : Int) (A : Option Addr) (n c : Nat) (l : List Vm.Nm) (w : World) (hl : NamesIn w A n c l) (hn : n ≤ 17592186044416) :
    Calls Try.prog 25 #[.agg #[.int .i64 num, .slice A n c]] w fun e w' => e = .returned (.int .i64 (Vm.chk num l)) ∧ Below w.heap.size w w' := by
  have H1 := fun V => mhead_any num n V
  by_cases h0 : Vm.head num n = 0
  · obtain ⟨h12, h3⟩ := Vm.head_zero h0
    rw [h0] at H1
    have HH := Lib.hid H1
    have HL := Lib.hid hl
    have HB0 := Lib.hid ((Below.refl w.heap.size w).alloc (Nat.le_refl _) (.cells #[Value.int .i64 num, .slice A n c] 25))
    clear hl H1
    go_enter Try.func25, Try.ntmps25
    go_wp2_with (first | (go_at_call 41; refine (HH.out _).mono ?_; rintro e w' ⟨rfl, rfl⟩) | fail)
    go_loopw [18] (fun i wr => ∃ k : Nat, k ≤ n ∧ i = .int .i64 k ∧ Below w.heap.size w wr ∧ ∀ j (hj : j < l.length), j < k → Vm.okN l[j] = true) (fun i wr => n - (intOf i).toNat)
    case atStart => exact ⟨0, by omega, rfl, HB0.out, fun j _ h => absurd h (by omega)⟩
    case round =>
      obtain ⟨k, hk, rfl, hBr, hok⟩ := hrel
      by_cases hlt : k < n
      · have d8 : decide ((k : Int) < (n : Int)) = true := by simp; omega
        obtain ⟨g, o, rfl, hg, hz, y0, y1⟩ := HL.out.at hlt
        have z0 := (hBr.cell (p := ⟨g, o + k * 2, none⟩) hg).trans y0
        have z1 := (hBr.cell (p := ⟨g, o + k * 2 + 1, none⟩) hg).trans y1
        obtain ⟨a, ha⟩ : ∃ a, l[k].1 = a := ⟨_, rfl⟩
        obtain ⟨b, hb⟩ : ∃ b, l[k].2 = b := ⟨_, rfl⟩
        rw [ha] at z0
        rw [hb] at z1
        have hsz := hBr.size
        have HBr := Lib.hid hBr
        have HOK := Lib.hid hok
        have S0 := fun V => msized_any b V
        clear hBr hok y0 y1
        by_cases g1 : a < 0
        · have HF := Lib.hid (Vm.chk_form h12 (by rw [HL.out.1]; exact h3) hz (by unfold Vm.okN; rw [ha, hb]; simp; omega))
          have e1 : decide (a < 0) = true := by simpa using g1
          clear S0
          go_wp2_with fail
          go_ret
          exact ⟨by rw [HF.out]; rfl, HBr.out.alloc hsz _⟩
        by_cases g2 : 2147483647 ≤ a
        · have HF := Lib.hid (Vm.chk_form h12 (by rw [HL.out.1]; exact h3) hz (by unfold Vm.okN; rw [ha, hb]; simp; omega))
          have e1 : decide (a < 0) = false := by simpa using g1
          have e2 : decide (2147483647 ≤ a) = true := by simpa using g2
          clear S0
          go_wp2_with fail
          go_ret
          exact ⟨by rw [HF.out]; rfl, HBr.out.alloc hsz _⟩
        have e1 : decide (a < 0) = false := by simpa using g1
        have e2 : decide (2147483647 ≤ a) = false := by simpa using g2
        by_cases g3 : 1 ≤ b ∧ b ≤ 256
        · have HG := Lib.hid (show Vm.okN l[k] = true by unfold Vm.okN; rw [ha, hb]; simp; omega)
          rw [show Vm.szd b = true by unfold Vm.szd; exact decide_eq_true g3] at S0
          have HS := Lib.hid S0
          clear ha hb S0
          go_wp2_with (first | (go_at_call 42; refine (HS.out _).mono ?_; rintro e w' ⟨rfl, rfl⟩) | fail)
          go_roundw
          case rel => exact ⟨k + 1, by omega, by go_num, HBr.out.alloc hsz _, fun j hj h => by
            by_cases e : j = k
            · subst e; exact HG.out
            · exact HOK.out j hj (by omega)⟩
          case measure => simp [intOf]; omega
        · have HF := Lib.hid (Vm.chk_form h12 (by rw [HL.out.1]; exact h3) hz (by unfold Vm.okN; rw [ha, hb]; simp; omega))
          rw [show Vm.szd b = false by unfold Vm.szd; exact decide_eq_false g3] at S0
          have HS := Lib.hid S0
          clear ha hb S0
          go_wp2_with (first | (go_at_call 42; refine (HS.out _).mono ?_; rintro e w' ⟨rfl, rfl⟩) | fail)
          go_ret
          exact ⟨by rw [HF.out]; rfl, HBr.out.alloc hsz _⟩
      · obtain rfl : k = n := by omega
        have HF := Lib.hid (Vm.chk_ok h12 (by rw [HL.out.1]; exact h3) (fun j hj => hok j hj (by rw [HL.out.1] at hj; exact hj)))
        clear hok
        go_wp2_with fail
        go_ret
        exact ⟨by rw [HF.out]; rfl, hBr⟩
  · have HF := Lib.hid (Vm.chk_head hl.1 h0)
    have g0 : (Vm.head num n != 0) = true := by simpa using h0
    have g1 : (Vm.head num n == 0) = false := by simpa using h0
    obtain ⟨x, hx⟩ : ∃ x, Vm.head num n = x := ⟨_, rfl⟩
    rw [hx] at H1 HF g0 g1
    have HH := Lib.hid H1
    clear h0 hx H1 hl
    go_enter Try.func25, Try.ntmps25
    go_wp2_with (first | (go_at_call 41; refine (HH.out _).mono ?_; rintro e w' ⟨rfl, rfl⟩) | fail)
    go_ret
    exact ⟨by rw [HF.out]; rfl, (Below.refl _ _).alloc (Nat.le_refl _) _⟩

theorem mname_any (s : ByteArray) (w : World) (hs : s.size ≤ maxLen) :
    Calls Try.prog 43 #[.string s] w fun e w' => e = .returned (Vm.val (Vm.nm s.data.toList)) ∧ Below w.heap.size w w' := by
  have HS := Lib.hid (fun V => sum_any s V hs)
  obtain ⟨D, hD⟩ : ∃ D, Dm.sum s.data.toList = D := ⟨_, rfl⟩
  have HV := Lib.hid (show Vm.nm s.data.toList = (D, (s.size : Int)) by unfold Vm.nm; rw [hD]; simp)
  rw [hD] at HS
  clear hD
  go_enter Try.func43, Try.ntmps43
  go_wp2_with fail
  refine (HS.out _).mono ?_
  rintro e w' ⟨rfl, rfl⟩
  go_wp2
  exact bodyPost_ret (v := Vm.val (Vm.nm s.data.toList)) (by rw [HV.out]; simp [results, Try.results43, go_sem, Vm.val]) rfl ⟨rfl, (Below.refl _ w).alloc (Nat.le_refl _) _⟩

set_option maxRecDepth 100000 in
theorem msiz_any (num : Int) (A : Option Addr) (n c : Nat) (l : List Vm.Nm) (w : World) (hl : NamesIn w A n c l) (hn : n ≤ 17592186044416) :
    Calls Try.prog 21 #[.agg #[.int .i64 num, .slice A n c]] w fun e w' => e = .returned (.tuple #[.int .i64 (Vm.siz num l).1, .int .i64 (Vm.siz num l).2]) ∧ Below w.heap.size w w' := by
  have C1 := Lib.hid (fun V h => mchk_any num A n c l V h hn)
  have hb0 : Below w.heap.size w (w.alloc (.cells #[.int .i64 num, .slice A n c] 25)) := (Below.refl _ _).alloc (Nat.le_refl _) _
  have HL := Lib.hid (hl.below hb0)
  have HL0 := Lib.hid hl
  have q0 : VB w.heap.size num (.slice A n c) (w.alloc (.cells #[.int .i64 num, .slice A n c] 25)) := heap_alloc_new _ _
  have HB0 := Lib.hid hb0
  have HQ0 := Lib.hid q0
  have hln := hl.1
  clear hl hb0 q0
  obtain ⟨w1, hw1⟩ : ∃ V, w.alloc (.cells #[.int .i64 num, .slice A n c] 25) = V := ⟨_, rfl⟩
  have hs1 : w1.heap.size = w.heap.size + 1 := by rw [← hw1]; simp
  rw [hw1] at HL HB0 HQ0
  have r0 := HQ0.out.c0
  have r1 := HQ0.out.c1
  by_cases hc : Vm.chk num l = 0
  · obtain ⟨h1, h2, h3, h4⟩ := Vm.chk_zero hc
    have HF := Lib.hid (show Vm.siz num l = (Vm.sum2 l, 0) by unfold Vm.siz; rw [if_pos hc])
    have HT := Lib.hid (Vm.sum2_take l)
    have hbd : ∀ k, k ≤ n → 0 ≤ Vm.sum2 (l.take k) ∧ Vm.sum2 (l.take k) ≤ 65536 := fun k hk => by
      have h := Vm.sum2_bd (l.take k) (fun x hx => ⟨(h4 x (List.mem_of_mem_take hx)).2.2.1, (h4 x (List.mem_of_mem_take hx)).2.2.2⟩)
      rw [List.length_take] at h; omega
    have h4' : ∀ k (h : k < l.length), 1 ≤ l[k].2 ∧ l[k].2 ≤ 256 := fun k h => ⟨(h4 _ (List.getElem_mem h)).2.2.1, (h4 _ (List.getElem_mem h)).2.2.2⟩
    have HBD := Lib.hid hbd
    have H4 := Lib.hid h4'
    have HW1 := Lib.hid hw1
    rw [hc] at C1
    clear hbd h4 h4' hc hw1
    go_enter Try.func21, Try.ntmps21
    go_wp2_with fail
    rw [HW1.out]
    go_wp2_with fail
    refine (C1.out _ HL.out).mono ?_
    rintro e w2 ⟨rfl, hB2⟩
    have hq2 := HQ0.out.below hB2 HQ0.out.lt
    have q0 := hq2.c0
    have q1 := hq2.c1
    have HL2 := Lib.hid (HL.out.below hB2)
    have hs2 : w.heap.size < w2.heap.size := by have := hB2.size; omega
    have HB2 := Lib.hid (HB0.out.trans (hB2.mono (by omega)))
    clear hB2 hq2 r0 r1
    go_wp2_with fail
    go_loopw [5, 16] (fun v i wq => ∃ k : Nat, k ≤ n ∧ i = .int .i64 k ∧ v = .int .i64 (Vm.sum2 (l.take k)) ∧ Below w.heap.size w wq) (fun v i _ => n - (intOf i).toNat)
    case atStart => exact ⟨0, by omega, rfl, rfl, HB2.out⟩
    case round =>
      obtain ⟨k, hk, rfl, rfl, hBr⟩ := hrel
      have hsz := hBr.size
      by_cases hlt : k < n
      · have d9 : decide ((k : Int) < (n : Int)) = true := by simp; omega
        obtain ⟨g, o, rfl, hg, hz, y0, y1⟩ := HL0.out.at hlt
        have z0 := (hBr.cell (p := ⟨g, o + k * 2, none⟩) hg).trans y0
        have z1 := (hBr.cell (p := ⟨g, o + k * 2 + 1, none⟩) hg).trans y1
        obtain ⟨x, hx⟩ : ∃ x, l[k] = x := ⟨_, rfl⟩
        have hT := HT.out k hz
        have h4 := H4.out k hz
        rw [hx] at z0 z1 hT h4
        obtain ⟨x0, x1⟩ := x
        simp only at z0 z1 hT h4
        have hs := HBD.out k hk
        obtain ⟨S, hS⟩ : ∃ S, Vm.sum2 (l.take k) = S := ⟨_, rfl⟩
        rw [hS] at hs hT ⊢
        obtain ⟨hs0, hs1'⟩ := hs
        obtain ⟨h40, h41⟩ := h4
        have HT2 := Lib.hid hT
        have HBr := Lib.hid hBr
        clear hT hx hS y0 y1 hBr hz
        go_wp2_with fail
        go_roundw
        case rel => exact ⟨k + 1, by omega, by go_num, by rw [HT2.out], HBr.out.alloc hsz _⟩
        case measure => simp [intOf]; omega
      · obtain rfl : k = n := by omega
        have d9 : decide ((k : Int) < (k : Int)) = false := by simp
        have HE := Lib.hid (show l.take k = l from List.take_of_length_le (by omega))
        go_wp2_with fail
        go_ret2
        exact ⟨by rw [HF.out, HE.out]; rfl, hBr⟩
  · have HF := Lib.hid (show Vm.siz num l = (0, Vm.chk num l) by unfold Vm.siz; rw [if_neg hc])
    have g0 : (Vm.chk num l == 0) = false := beq_eq_false_iff_ne.2 hc
    have g1 : (Vm.chk num l != 0) = true := by simpa using hc
    obtain ⟨x, hx⟩ : ∃ x, Vm.chk num l = x := ⟨_, rfl⟩
    rw [hx] at C1 HF g0 g1
    have HW1 := Lib.hid hw1
    clear hc hx hw1
    go_enter Try.func21, Try.ntmps21
    go_wp2_with fail
    rw [HW1.out]
    go_wp2_with fail
    refine (C1.out _ HL.out).mono ?_
    rintro e w2 ⟨rfl, hB2⟩
    have HB2 := Lib.hid (HB0.out.trans (hB2.mono (by omega)))
    clear hB2
    go_wp2_with fail
    go_ret2
    exact ⟨by rw [HF.out]; rfl, HB2.out⟩

theorem msameV_any (num num' : Int) (A A' : Option Addr) (n n' c c' : Nat) (l l' : List Vm.Nm) (w : World) (hl : NamesIn w A n c l) (hl' : NamesIn w A' n' c' l') (hn : n ≤ 17592186044416) (hn' : n' ≤ 17592186044416) :
    Calls Try.prog 28 #[.agg #[.int .i64 num, .slice A n c], .agg #[.int .i64 num', .slice A' n' c']] w fun e w' => e = .returned (.bool (decide (num = num' ∧ l = l'))) ∧ Below w.heap.size w w' := by
  by_cases hnn : num = num'
  · subst hnn
    have C1 := Lib.hid (fun V h h' => eqN_any A A' n n' c c' l l' V h h' hn hn')
    have HF := Lib.hid (show decide (num = num ∧ l = l') = decide (l = l') by simp)
    have hb : Below w.heap.size w ((w.alloc (.cells #[.int .i64 num, .slice A n c] 25)).alloc (.cells #[.int .i64 num, .slice A' n' c'] 25)) := ((Below.refl _ _).alloc (Nat.le_refl _) _).alloc (by simp) _
    have HL := Lib.hid (hl.below hb)
    have HL' := Lib.hid (hl'.below hb)
    have HB := Lib.hid hb
    clear hl hl' hb
    go_enter Try.func28, Try.ntmps28
    go_wp2_with fail
    refine (C1.out _ HL.out HL'.out).mono ?_
    rintro e w2 ⟨rfl, hB2⟩
    have HB2 := Lib.hid (HB.out.trans (hB2.mono (by simp; omega)))
    clear hB2
    go_wp2_with fail
    go_ret
    exact ⟨by rw [HF.out]; rfl, HB2.out⟩
  · have b1 : (num == num') = false := beq_eq_false_iff_ne.2 hnn
    have HF := Lib.hid (show decide (num = num' ∧ l = l') = false from decide_eq_false (fun e => hnn e.1))
    go_enter Try.func28, Try.ntmps28
    go_wp2_with fail
    go_ret
    exact ⟨by rw [HF.out]; rfl, ((Below.refl _ _).alloc (Nat.le_refl _) _).alloc (by simp) _⟩

end Go.Proofs.Ytebkgndcgcdogaa
