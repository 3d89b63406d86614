/-
  Contracts of the reference of manifest: Size, SameNames, Same.
-/
import Derived.Test.YtebkgndcgcdogaaVc
namespace Go.Proofs.Ytebkgndcgcdogaa
open Go.RowKit
set_option maxHeartbeats 1000000

theorem Vm.sum2_take (l : List Vm.Nm) (k : Nat) (h : k < l.length) : Vm.sum2 (l.take (k + 1)) = Vm.sum2 (l.take k) + l[k].2 := by
  rw [List.take_succ_eq_append_getElem h, Vm.sum2_snoc]
theorem Vm.sum2_bd (l : List Vm.Nm) (hx : ∀ x ∈ l, 1 ≤ x.2 ∧ x.2 ≤ 256) : 0 ≤ Vm.sum2 l ∧ Vm.sum2 l ≤ 256 * l.length := by
  induction l with
  | nil => exact ⟨Int.le_refl _, Int.le_refl _⟩
  | cons x l ih =>
    have h := ih (fun y hy => hx y (List.mem_cons_of_mem _ hy))
    have h2 := hx x (List.mem_cons_self ..)
    have e : Vm.sum2 (x :: l) = x.2 + Vm.sum2 l := rfl
    rw [e, List.length_cons]; omega

set_option maxRecDepth 100000 in
theorem rsiz_any (num : Int) (A : Option Addr) (n c : Nat) (l : List Vm.Nm) (w : World) (hl : NamesIn w A n c l) (hn : n ≤ 17592186044416) :
    Calls Try.prog 22 #[.agg #[.int .i64 num, .slice A n c]] w fun e w' => e = .returned (.tuple #[.int .i64 (Vm.siz num l).1, .int .i64 (Vm.siz num l).2]) ∧ Below w.heap.size w w' := by
  have C1 := Lib.hid (fun V h => rchkV_any num A n c l V h hn)
  have hb0 : Below w.heap.size w (w.alloc (.cells #[.int .i64 num, .slice A n c] 25)) := (Below.refl _ _).alloc (Nat.le_refl _) _
  have HL := Lib.hid (hl.below hb0)
  have HL0 := Lib.hid hl
  have q0 : VB w.heap.size num (.slice A n c) (w.alloc (.cells #[.int .i64 num, .slice A n c] 25)) := heap_alloc_new _ _
  have HB0 := Lib.hid hb0
  have HQ0 := Lib.hid q0
  have hln := hl.1
  clear hl hb0 q0
  obtain ⟨w1, hw1⟩ : ∃ V, w.alloc (.cells #[.int .i64 num, .slice A n c] 25) = V := ⟨_, rfl⟩
  have hs1 : w1.heap.size = w.heap.size + 1 := by rw [← hw1]; simp
  rw [hw1] at HL HB0 HQ0
  by_cases hc : Vm.chk num l = 0
  · obtain ⟨h1, h2, h3, h4⟩ := Vm.chk_zero hc
    have HF := Lib.hid (show Vm.siz num l = (Vm.sum2 l, 0) by unfold Vm.siz; rw [if_pos hc])
    have HT := Lib.hid (Vm.sum2_take l)
    have hbd : ∀ k, k ≤ n → 0 ≤ Vm.sum2 (l.take k) ∧ Vm.sum2 (l.take k) ≤ 65536 := fun k hk => by
      have h := Vm.sum2_bd (l.take k) (fun x hx => ⟨(h4 x (List.mem_of_mem_take hx)).2.2.1, (h4 x (List.mem_of_mem_take hx)).2.2.2⟩)
      rw [List.length_take] at h; omega
    have h4' : ∀ k (h : k < l.length), 1 ≤ l[k].2 ∧ l[k].2 ≤ 256 := fun k h => ⟨(h4 _ (List.getElem_mem h)).2.2.1, (h4 _ (List.getElem_mem h)).2.2.2⟩
    have HBD := Lib.hid hbd
    have H4 := Lib.hid h4'
    have HW1 := Lib.hid hw1
    rw [hc] at C1
    clear hbd h4 h4' hc hw1
    go_enter Try.func22, Try.ntmps22
    go_wp2_with fail
    rw [HW1.out]
    refine (C1.out _ HL.out).mono ?_
    rintro e w2 ⟨rfl, hB2⟩
    have hq2 := HQ0.out.below hB2 HQ0.out.lt
    have q0 := hq2.c0
    have q1 := hq2.c1
    have HL2 := Lib.hid (HL.out.below hB2)
    have hs2 : w.heap.size < w2.heap.size := by have := hB2.size; omega
    have HB2 := Lib.hid (HB0.out.trans (hB2.mono (by omega)))
    clear hB2 hq2
    go_wp2_with fail
    go_loopw [5, 16] (fun v i wq => ∃ k : Nat, k ≤ n ∧ i = .int .i64 k ∧ v = .int .i64 (Vm.sum2 (l.take k)) ∧ Below w.heap.size w wq) (fun v i _ => n - (intOf i).toNat)
    case atStart => exact ⟨0, by omega, rfl, rfl, HB2.out⟩
    case round =>
      obtain ⟨k, hk, rfl, rfl, hBr⟩ := hrel
      have hsz := hBr.size
      by_cases hlt : k < n
      · have d9 : decide ((k : Int) < (n : Int)) = true := by simp; omega
        obtain ⟨g, o, rfl, hg, hz, y0, y1⟩ := HL0.out.at hlt
        have z0 := (hBr.cell (p := ⟨g, o + k * 2, none⟩) hg).trans y0
        have z1 := (hBr.cell (p := ⟨g, o + k * 2 + 1, none⟩) hg).trans y1
        obtain ⟨x, hx⟩ : ∃ x, l[k] = x := ⟨_, rfl⟩
        have hT := HT.out k hz
        have h4 := H4.out k hz
        rw [hx] at z0 z1 hT h4
        obtain ⟨x0, x1⟩ := x
        simp only at z0 z1 hT h4
        have hs := HBD.out k hk
        obtain ⟨S, hS⟩ : ∃ S, Vm.sum2 (l.take k) = S := ⟨_, rfl⟩
        rw [hS] at hs hT ⊢
        obtain ⟨hs0, hs1'⟩ := hs
        obtain ⟨h40, h41⟩ := h4
        have HT2 := Lib.hid hT
        have HBr := Lib.hid hBr
        clear hT hx hS y0 y1 hBr hz
        go_wp2_with fail
        go_roundw
        case rel => exact ⟨k + 1, by omega, by go_num, by rw [HT2.out], HBr.out.alloc hsz _⟩
        case measure => simp [intOf]; omega
      · obtain rfl : k = n := by omega
        have d9 : decide ((k : Int) < (k : Int)) = false := by simp
        have HE := Lib.hid (show l.take k = l from List.take_of_length_le (by omega))
        go_wp2_with fail
        go_ret2
        exact ⟨by rw [HF.out, HE.out]; rfl, hBr⟩
  · have HF := Lib.hid (show Vm.siz num l = (0, Vm.chk num l) by unfold Vm.siz; rw [if_neg hc])
    have g0 : (Vm.chk num l == 0) = false := beq_eq_false_iff_ne.2 hc
    obtain ⟨x, hx⟩ : ∃ x, Vm.chk num l = x := ⟨_, rfl⟩
    rw [hx] at C1 HF g0
    have HW1 := Lib.hid hw1
    clear hc hx hw1
    go_enter Try.func22, Try.ntmps22
    go_wp2_with fail
    rw [HW1.out]
    refine (C1.out _ HL.out).mono ?_
    rintro e w2 ⟨rfl, hB2⟩
    have HB2 := Lib.hid (HB0.out.trans (hB2.mono (by omega)))
    clear hB2
    go_wp2_with fail
    go_ret2
    exact ⟨by rw [HF.out]; rfl, HB2.out⟩

theorem rsameN_any (A A' : Option Addr) (n n' c c' : Nat) (l l' : List Vm.Nm) (w : World) (hl : NamesIn w A n c l) (hl' : NamesIn w A' n' c' l') (hn : n ≤ 17592186044416) (hn' : n' ≤ 17592186044416) :
    Calls Try.prog 27 #[.slice A n c, .slice A' n' c'] w fun e w' => e = .returned (.bool (decide (l = l'))) ∧ Below w.heap.size w w' := by
  by_cases hnn : n = n'
  · subst hnn
    have b0 : ((n : Int) != (n : Int)) = false := by simp
    have HL := Lib.hid hl
    have HL' := Lib.hid hl'
    clear hl hl'
    go_enter Try.func27, Try.ntmps27
    go_wp2_with fail
    go_loopw [13] (fun i wq => ∃ a q : Nat, a ≤ n ∧ i = .int .i64 a ∧ wq = w.drewN q ∧ ∀ j (h : j < l.length) (h' : j < l'.length), j < a → l[j] = l'[j]) (fun i _ => n - (intOf i).toNat)
    case atStart => exact ⟨0, 0, by omega, rfl, rfl, fun j _ _ h => absurd h (by omega)⟩
    case round =>
      obtain ⟨a, q, ha, rfl, rfl, hin⟩ := hrel
      have HIN := Lib.hid hin
      clear hin
      by_cases hlt : a < n
      · have d9 : decide ((a : Int) < (n : Int)) = true := by simp; omega
        obtain ⟨g, o, rfl, hg, hz, y0, y1⟩ := HL.out.at hlt
        obtain ⟨g', o', rfl, hg', hz', y0', y1'⟩ := HL'.out.at hlt
        obtain ⟨x, hx⟩ : ∃ x, l[a] = x := ⟨_, rfl⟩
        obtain ⟨x', hx'⟩ : ∃ x, l'[a] = x := ⟨_, rfl⟩
        rw [hx] at y0 y1
        rw [hx'] at y0' y1'
        obtain ⟨p0, p1⟩ := x
        obtain ⟨p0', p1'⟩ := x'
        simp only at y0 y1 y0' y1'
        have j3 : (0 : Int) ≤ (a : Int) := by omega
        have j4 : (a : Int) < (n : Int) := by omega
        by_cases he : (p0, p1) = (p0', p1')
        · obtain ⟨rfl, rfl⟩ : p0 = p0' ∧ p1 = p1' := by injection he with h1 h2; exact ⟨h1, h2⟩
          have HN := Lib.hid (show ∀ j (h : j < l.length) (h' : j < l'.length), j < a + 1 → l[j] = l'[j] from fun j h h' hj => by
            by_cases e : j = a
            · subst e; rw [hx, hx']
            · exact HIN.out j h h' (by omega))
          clear hx hx' hg hg' he hz hz'
          go_wp2_with fail
          go_quiet (fail)
          go_wp2_with fail
          go_roundw
          case rel => exact ⟨a + 1, _, by omega, by go_num, rfl, HN.out⟩
          case measure => simp [intOf]; omega
        · have hq := name_ne he
          have HF := Lib.hid (show decide (l = l') = false from decide_eq_false (fun e => he (by subst e; rw [← hx, ← hx'])))
          clear hx hx' hg hg' he hz hz'
          go_wp2_with fail
          go_quiet (fail)
          go_wp2_with fail
          go_ret
          exact ⟨by rw [HF.out]; rfl, Below.drewN' (Below.drewN' (Below.refl _ _) _) _⟩
      · obtain rfl : a = n := by omega
        have d9 : decide ((a : Int) < (a : Int)) = false := by simp
        have HF := Lib.hid (show decide (l = l') = true from decide_eq_true (List.ext_getElem (by rw [HL.out.1, HL'.out.1]) (fun i h h' => HIN.out i h h' (by rw [HL.out.1] at h; exact h))))
        go_wp2_with fail
        go_ret
        exact ⟨by rw [HF.out]; rfl, Below.drewN' (Below.refl _ _) _⟩
  · have b0 : ((n : Int) != (n' : Int)) = true := by simp; omega
    have b1 : ((n : Int) == (n' : Int)) = false := by simp; omega
    have HF := Lib.hid (show decide (l = l') = false from decide_eq_false (fun e => hnn (by rw [← hl.1, ← hl'.1, e])))
    go_enter Try.func27, Try.ntmps27
    go_wp2_with fail
    go_ret
    exact ⟨by rw [HF.out]; rfl, Below.refl _ _⟩

theorem rsameV_any (num num' : Int) (A A' : Option Addr) (n n' c c' : Nat) (l l' : List Vm.Nm) (w : World) (hl : NamesIn w A n c l) (hl' : NamesIn w A' n' c' l') (hn : n ≤ 17592186044416) (hn' : n' ≤ 17592186044416) :
    Calls Try.prog 18 #[.agg #[.int .i64 num, .slice A n c], .agg #[.int .i64 num', .slice A' n' c']] w fun e w' => e = .returned (.bool (decide (num = num' ∧ l = l'))) ∧ Below w.heap.size w w' := by
  by_cases hnn : num = num'
  · subst hnn
    have C1 := Lib.hid (fun V h h' => rsameN_any A A' n n' c c' l l' V h h' hn hn')
    have HF := Lib.hid (show decide (num = num ∧ l = l') = decide (l = l') by simp)
    have hb : Below w.heap.size w ((w.alloc (.cells #[.int .i64 num, .slice A n c] 25)).alloc (.cells #[.int .i64 num, .slice A' n' c'] 25)) := ((Below.refl _ _).alloc (Nat.le_refl _) _).alloc (by simp) _
    have HL := Lib.hid (hl.below hb)
    have HL' := Lib.hid (hl'.below hb)
    have HB := Lib.hid hb
    clear hl hl' hb
    go_enter Try.func18, Try.ntmps18
    go_wp2_with fail
    refine (C1.out _ HL.out HL'.out).mono ?_
    rintro e w2 ⟨rfl, hB2⟩
    have HB2 := Lib.hid (HB.out.trans (hB2.mono (by simp; omega)))
    clear hB2
    go_wp2_with fail
    go_ret
    exact ⟨by rw [HF.out]; rfl, HB2.out⟩
  · have b1 : (num == num') = false := beq_eq_false_iff_ne.2 hnn
    have HF := Lib.hid (show decide (num = num' ∧ l = l') = false from decide_eq_false (fun e => hnn e.1))
    go_enter Try.func18, Try.ntmps18
    go_wp2_with fail
    go_ret
    exact ⟨by rw [HF.out]; rfl, ((Below.refl _ _).alloc (Nat.le_refl _) _).alloc (by simp) _⟩

end Go.Proofs.Ytebkgndcgcdogaa
