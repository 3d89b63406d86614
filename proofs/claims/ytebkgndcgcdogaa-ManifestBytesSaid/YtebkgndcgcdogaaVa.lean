/-
  Contracts of the reference of manifest: Check.
-/
import Derived.Test.YtebkgndcgcdogaaNames
import Derived.Test.YtebkgndcgcdogaaChA
namespace Go.Proofs.Ytebkgndcgcdogaa
open Go.RowKit
set_option maxHeartbeats 1000000

theorem Vm.chk_range {num : Int} (l : List Vm.Nm) (h : num < 1 ∨ 2147483647 ≤ num) : Vm.chk num l = 1 := by unfold Vm.chk; rw [if_pos h]
theorem Vm.chk_limit {num : Int} {l : List Vm.Nm} (h : ¬ (num < 1 ∨ 2147483647 ≤ num)) (h2 : 256 < l.length) : Vm.chk num l = 4 := by unfold Vm.chk; rw [if_neg h, if_pos h2]
theorem Vm.chk_form {num : Int} {l : List Vm.Nm} (h : ¬ (num < 1 ∨ 2147483647 ≤ num)) (h2 : ¬ 256 < l.length) {i : Nat} (hi : i < l.length) (hf : Vm.okN l[i] = false) : Vm.chk num l = 2 := by
  unfold Vm.chk; rw [if_neg h, if_neg h2, if_neg]
  intro ha
  have := List.all_eq_true.1 ha _ (List.getElem_mem hi)
  rw [hf] at this; cases this
theorem Vm.chk_ok {num : Int} {l : List Vm.Nm} (h : ¬ (num < 1 ∨ 2147483647 ≤ num)) (h2 : ¬ 256 < l.length) (ha : ∀ i (hi : i < l.length), Vm.okN l[i] = true) : Vm.chk num l = 0 := by
  unfold Vm.chk; rw [if_neg h, if_neg h2, if_pos]
  exact List.all_eq_true.2 (fun x hx => by obtain ⟨i, hi, rfl⟩ := List.mem_iff_getElem.1 hx; exact ha i hi)

set_option maxRecDepth 100000 in
theorem rchkV_any (num : Int) (A : Option Addr) (n c : Nat) (l : List Vm.Nm) (w : World) (hl : NamesIn w A n c l) (hn : n ≤ 17592186044416) :
    Calls Try.prog 26 #[.agg #[.int .i64 num, .slice A n c]] w fun e w' => e = .returned (.int .i64 (Vm.chk num l)) ∧ Below w.heap.size w w' := by
  by_cases h1 : num < 1
  · have HF := Lib.hid (Vm.chk_range l (.inl h1))
    go_enter Try.func26, Try.ntmps26
    go_wp2
    go_ret
    exact ⟨by rw [HF.out]; rfl, (Below.refl _ _).alloc (Nat.le_refl _) _⟩
  by_cases h2 : 2147483647 ≤ num
  · have HF := Lib.hid (Vm.chk_range l (.inr h2))
    go_enter Try.func26, Try.ntmps26
    go_wp2
    go_ret
    exact ⟨by rw [HF.out]; rfl, (Below.refl _ _).alloc (Nat.le_refl _) _⟩
  have h12 : ¬ (num < 1 ∨ 2147483647 ≤ num) := by omega
  by_cases h3 : 256 < n
  · have HF := Lib.hid (Vm.chk_limit h12 (by rw [hl.1]; exact h3))
    have d3 : decide ((256 : Int) < (n : Int)) = true := by simp; omega
    go_enter Try.func26, Try.ntmps26
    go_wp2
    go_ret
    exact ⟨by rw [HF.out]; rfl, (Below.refl _ _).alloc (Nat.le_refl _) _⟩
  have d3 : decide ((256 : Int) < (n : Int)) = false := by simp; omega
  go_enter Try.func26, Try.ntmps26
  go_wp2_with fail
  have HL := Lib.hid hl
  have HB0 := Lib.hid ((Below.refl w.heap.size w).alloc (Nat.le_refl _) (.cells #[Value.int .i64 num, .slice A n c] 25))
  clear hl d3
  go_loopw [20] (fun i wr => ∃ k : Nat, k ≤ n ∧ i = .int .i64 k ∧ Below w.heap.size w wr ∧ ∀ j (hj : j < l.length), j < k → Vm.okN l[j] = true) (fun i wr => n - (intOf i).toNat)
  case atStart => exact ⟨0, by omega, rfl, HB0.out, fun j _ h => absurd h (by omega)⟩
  case round =>
    obtain ⟨k, hk, rfl, hBr, hok⟩ := hrel
    by_cases hlt : k < n
    · have d8 : decide ((k : Int) < (n : Int)) = true := by simp; omega
      obtain ⟨g, o, rfl, hg, hz, y0, y1⟩ := HL.out.at hlt
      have z0 := (hBr.cell (p := ⟨g, o + k * 2, none⟩) hg).trans y0
      have z1 := (hBr.cell (p := ⟨g, o + k * 2 + 1, none⟩) hg).trans y1
      obtain ⟨a, ha⟩ : ∃ a, l[k].1 = a := ⟨_, rfl⟩
      obtain ⟨b, hb⟩ : ∃ b, l[k].2 = b := ⟨_, rfl⟩
      rw [ha] at z0
      rw [hb] at z1
      have hsz := hBr.size
      have HBr := Lib.hid hBr
      have HOK := Lib.hid hok
      clear hBr hok y0 y1
      by_cases g1 : a < 0
      · have HF := Lib.hid (Vm.chk_form h12 (by rw [HL.out.1]; exact h3) hz (by unfold Vm.okN; rw [ha, hb]; simp; omega))
        have e1 : decide (a < 0) = true := by simpa using g1
        go_wp2_with fail
        go_ret
        exact ⟨by rw [HF.out]; rfl, HBr.out.alloc hsz _⟩
      by_cases g2 : 2147483647 ≤ a
      · have HF := Lib.hid (Vm.chk_form h12 (by rw [HL.out.1]; exact h3) hz (by unfold Vm.okN; rw [ha, hb]; simp; omega))
        have e1 : decide (a < 0) = false := by simpa using g1
        have e2 : decide (2147483647 ≤ a) = true := by simpa using g2
        go_wp2_with fail
        go_ret
        exact ⟨by rw [HF.out]; rfl, HBr.out.alloc hsz _⟩
      by_cases g3 : b < 1
      · have HF := Lib.hid (Vm.chk_form h12 (by rw [HL.out.1]; exact h3) hz (by unfold Vm.okN; rw [ha, hb]; simp; omega))
        have e1 : decide (a < 0) = false := by simpa using g1
        have e2 : decide (2147483647 ≤ a) = false := by simpa using g2
        have e3 : decide (b < 1) = true := by simpa using g3
        go_wp2_with fail
        go_ret
        exact ⟨by rw [HF.out]; rfl, HBr.out.alloc hsz _⟩
      by_cases g4 : 256 < b
      · have HF := Lib.hid (Vm.chk_form h12 (by rw [HL.out.1]; exact h3) hz (by unfold Vm.okN; rw [ha, hb]; simp; omega))
        have e1 : decide (a < 0) = false := by simpa using g1
        have e2 : decide (2147483647 ≤ a) = false := by simpa using g2
        have e3 : decide (b < 1) = false := by simpa using g3
        have e4 : decide (256 < b) = true := by simpa using g4
        go_wp2_with fail
        go_ret
        exact ⟨by rw [HF.out]; rfl, HBr.out.alloc hsz _⟩
      have HG := Lib.hid (show Vm.okN l[k] = true by unfold Vm.okN; rw [ha, hb]; simp; omega)
      have e1 : decide (a < 0) = false := by simpa using g1
      have e2 : decide (2147483647 ≤ a) = false := by simpa using g2
      have e3 : decide (b < 1) = false := by simpa using g3
      have e4 : decide (256 < b) = false := by simpa using g4
      clear ha hb
      go_wp2_with fail
      go_roundw
      case rel => exact ⟨k + 1, by omega, by go_num, HBr.out.alloc hsz _, fun j hj h => by
        by_cases e : j = k
        · subst e; exact HG.out
        · exact HOK.out j hj (by omega)⟩
      case measure => simp [intOf]; omega
    · obtain rfl : k = n := by omega
      have HF := Lib.hid (Vm.chk_ok h12 (by rw [HL.out.1]; exact h3) (fun j hj => hok j hj (by rw [HL.out.1] at hj; exact hj)))
      clear hok
      go_wp2_with fail
      go_ret
      exact ⟨by rw [HF.out]; rfl, hBr⟩

end Go.Proofs.Ytebkgndcgcdogaa
