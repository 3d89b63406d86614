/-
  Contracts of Same and ints.
-/
import Derived.Test.YtenkloceonojeaaChE
namespace Go.Proofs.Ytenkloceonojeaa
open Go.RowKit
set_option maxHeartbeats 1000000

theorem Cm.b_inj {x y : List UInt8} (h : Cm.b x = Cm.b y) : x = y := by rw [← Cm.b_list x, h, Cm.b_list]
theorem take_step {α : Type} {x y : List α} {k : Nat} (hx : k < x.length) (hy : k < y.length) (h : x.take k = y.take k) (he : x[k] = y[k]) : x.take (k + 1) = y.take (k + 1) := by
  rw [List.take_succ_eq_append_getElem hx, List.take_succ_eq_append_getElem hy, h, he]
theorem Cm.ret_bool {a b : Bool} (h : a = b) : Ending.returned (.bool a) = .returned (.bool b) := by rw [h]

set_option maxRecDepth 100000 in
/-- Same of the reference -/
theorem csame_any (A A' : Option Addr) (n n' c c' : Nat) (l l' : List (List UInt8)) (w : World) (h : CellsIn w A n c (l.map Cm.str)) (h' : CellsIn w A' n' c' (l'.map Cm.str)) (hn : n ≤ 100000) (hn' : n' ≤ 100000) :
    Calls Try.prog 23 #[.slice A n c, .slice A' n' c'] w fun e w' => e = .returned (.bool (decide (l = l'))) ∧ Below w.heap.size w w' := by
  have hl : l.length = n := by rw [← h.1, List.length_map]
  have hl' : l'.length = n' := by rw [← h'.1, List.length_map]
  obtain ⟨r, hr⟩ : ∃ r, decide (l = l') = r := ⟨_, rfl⟩
  rw [hr]
  have H := Lib.hid h
  have H' := Lib.hid h'
  have HL := Lib.hid hl
  have HL' := Lib.hid hl'
  have HR := Lib.hid hr
  clear h h' hl hl' hr
  by_cases hnn : n = n'
  · subst hnn
    go_enter Try.func23, Try.ntmps23
    go_wp2
    go_loopw [13] (fun i wr => ∃ k : Nat, k ≤ n ∧ i = .int .i64 k ∧ l.take k = l'.take k ∧ ∃ q, wr = w.drewN q) (fun i wr => n - (intOf i).toNat)
    case atStart => exact ⟨0, by omega, rfl, rfl, 0, rfl⟩
    case round =>
      obtain ⟨k, hk, rfl, htk, q, rfl⟩ := hrel
      have HT := Lib.hid htk
      clear htk
      by_cases hlt : k < n
      · obtain ⟨b, o, rfl, hbl, hz, g1⟩ := H.out.at hlt
        obtain ⟨b', o', rfl, hbl', hz', g2⟩ := H'.out.at hlt
        rw [List.getElem_map] at g1 g2
        have hk1 : k < l.length := by rw [HL.out]; exact hlt
        have hk2 : k < l'.length := by rw [HL'.out]; exact hlt
        obtain ⟨x, hx⟩ : ∃ x, Cm.b l[k] = x := ⟨_, rfl⟩
        obtain ⟨y, hy⟩ : ∃ y, Cm.b l'[k] = y := ⟨_, rfl⟩
        unfold Cm.str at g1 g2
        rw [hx] at g1
        rw [hy] at g2
        have i0 : (0 : Int) ≤ (k : Int) := by omega
        have i1 : (k : Int) < (n : Int) := by omega
        by_cases he : l[k] = l'[k]
        · have hxy : x = y := by rw [← hx, ← hy, he]
          subst hxy
          have HS := Lib.hid (take_step hk1 hk2 HT.out he)
          clear hx hy he hz hz' hbl hbl' hk1 hk2
          go_wp2_with fail
          go_quiet (fail)
          go_wp2_with fail
          go_roundw
          case rel => exact ⟨k + 1, by omega, by go_num, HS.out, _, rfl⟩
          case measure => simp [intOf]; omega
        · have hxy : (x.toList == y.toList) = false := str_ne (fun e => he (Cm.b_inj (by rw [hx, hy, e])))
          have hrf : false = r := by
            rw [← HR.out, eq_comm, decide_eq_false_iff_not]
            intro e; subst e; exact he rfl
          subst hrf
          clear hx hy he hz hz' hbl hbl' hk1 hk2
          go_wp2_with fail
          go_quiet (fail)
          go_wp2_with fail
          go_ret
          exact ⟨rfl, (Below.refl _ w).trans ⟨rfl, rfl, rfl, Nat.le_refl _, fun _ _ => rfl⟩⟩
      · obtain rfl : k = n := by omega
        have hrt : true = r := by
          rw [← HR.out, eq_comm, decide_eq_true_iff]
          have h := HT.out
          rwa [List.take_of_length_le (by rw [HL.out]; exact Nat.le_refl _), List.take_of_length_le (by rw [HL'.out]; exact Nat.le_refl _)] at h
        subst hrt
        go_wp2
        go_ret
        exact ⟨rfl, (Below.refl _ w).trans ⟨rfl, rfl, rfl, Nat.le_refl _, fun _ _ => rfl⟩⟩
  · have g1 : ((n : Int) == (n' : Int)) = false := beq_eq_false_iff_ne.2 (by omega)
    have g2 : ((n : Int) != (n' : Int)) = true := by rw [bne, g1]; rfl
    have hrf : false = r := by
      rw [← HR.out, eq_comm, decide_eq_false_iff_not]
      intro e; exact hnn (by rw [← HL.out, ← HL'.out, e])
    subst hrf
    go_enter Try.func23, Try.ntmps23
    go_wp2
    go_ret
    exact ⟨rfl, (Below.refl _ w).trans ⟨rfl, rfl, rfl, Nat.le_refl _, fun _ _ => rfl⟩⟩

set_option maxRecDepth 100000 in
/-- ints -/
theorem ints_any (A A' : Option Addr) (n n' c c' : Nat) (l l' : List Int) (w : World) (h : CellsIn w A n c (l.map (Value.int .i64))) (h' : CellsIn w A' n' c' (l'.map (Value.int .i64))) (hn : n ≤ 100000) (hn' : n' ≤ 100000) :
    Calls Try.prog 24 #[.slice A n c, .slice A' n' c'] w fun e w' => e = .returned (.bool (decide (l = l'))) ∧ Below w.heap.size w w' := by
  have hl : l.length = n := by rw [← h.1, List.length_map]
  have hl' : l'.length = n' := by rw [← h'.1, List.length_map]
  obtain ⟨r, hr⟩ : ∃ r, decide (l = l') = r := ⟨_, rfl⟩
  rw [hr]
  have H := Lib.hid h
  have H' := Lib.hid h'
  have HL := Lib.hid hl
  have HL' := Lib.hid hl'
  have HR := Lib.hid hr
  clear h h' hl hl' hr
  by_cases hnn : n = n'
  · subst hnn
    go_enter Try.func24, Try.ntmps24
    go_wp2
    go_loopw [13] (fun i wr => ∃ k : Nat, k ≤ n ∧ i = .int .i64 k ∧ l.take k = l'.take k ∧ ∃ q, wr = w.drewN q) (fun i wr => n - (intOf i).toNat)
    case atStart => exact ⟨0, by omega, rfl, rfl, 0, rfl⟩
    case round =>
      obtain ⟨k, hk, rfl, htk, q, rfl⟩ := hrel
      have HT := Lib.hid htk
      clear htk
      by_cases hlt : k < n
      · obtain ⟨b, o, rfl, hbl, hz, g1⟩ := H.out.at hlt
        obtain ⟨b', o', rfl, hbl', hz', g2⟩ := H'.out.at hlt
        rw [List.getElem_map] at g1 g2
        have hk1 : k < l.length := by rw [HL.out]; exact hlt
        have hk2 : k < l'.length := by rw [HL'.out]; exact hlt
        obtain ⟨x, hx⟩ : ∃ x, l[k] = x := ⟨_, rfl⟩
        obtain ⟨y, hy⟩ : ∃ y, l'[k] = y := ⟨_, rfl⟩
        rw [hx] at g1
        rw [hy] at g2
        have i0 : (0 : Int) ≤ (k : Int) := by omega
        have i1 : (k : Int) < (n : Int) := by omega
        by_cases he : l[k] = l'[k]
        · have hxy : x = y := by rw [← hx, ← hy, he]
          subst hxy
          have HS := Lib.hid (take_step hk1 hk2 HT.out he)
          clear hx hy he hz hz' hbl hbl' hk1 hk2
          go_wp2_with fail
          go_quiet (fail)
          go_wp2_with fail
          go_roundw
          case rel => exact ⟨k + 1, by omega, by go_num, HS.out, _, rfl⟩
          case measure => simp [intOf]; omega
        · have hxy : (x == y) = false := beq_eq_false_iff_ne.2 (fun e => he (by rw [hx, hy, e]))
          have hxy2 : (x != y) = true := by rw [bne, hxy]; rfl
          have hrf : false = r := by
            rw [← HR.out, eq_comm, decide_eq_false_iff_not]
            intro e; subst e; exact he rfl
          subst hrf
          clear hx hy he hz hz' hbl hbl' hk1 hk2
          go_wp2_with fail
          go_quiet (fail)
          go_wp2_with fail
          go_ret
          exact ⟨rfl, (Below.refl _ w).trans ⟨rfl, rfl, rfl, Nat.le_refl _, fun _ _ => rfl⟩⟩
      · obtain rfl : k = n := by omega
        have hrt : true = r := by
          rw [← HR.out, eq_comm, decide_eq_true_iff]
          have h := HT.out
          rwa [List.take_of_length_le (by rw [HL.out]; exact Nat.le_refl _), List.take_of_length_le (by rw [HL'.out]; exact Nat.le_refl _)] at h
        subst hrt
        go_wp2
        go_ret
        exact ⟨rfl, (Below.refl _ w).trans ⟨rfl, rfl, rfl, Nat.le_refl _, fun _ _ => rfl⟩⟩
  · have g1 : ((n : Int) == (n' : Int)) = false := beq_eq_false_iff_ne.2 (by omega)
    have g2 : ((n : Int) != (n' : Int)) = true := by rw [bne, g1]; rfl
    have hrf : false = r := by
      rw [← HR.out, eq_comm, decide_eq_false_iff_not]
      intro e; exact hnn (by rw [← HL.out, ← HL'.out, e])
    subst hrf
    go_enter Try.func24, Try.ntmps24
    go_wp2
    go_ret
    exact ⟨rfl, (Below.refl _ w).trans ⟨rfl, rfl, rfl, Nat.le_refl _, fun _ _ => rfl⟩⟩

end Go.Proofs.Ytenkloceonojeaa
