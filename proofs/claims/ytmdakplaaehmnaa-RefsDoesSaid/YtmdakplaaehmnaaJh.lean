/-
  Contracts of refs: slices.Equal at rows, Same.
-/
import Derived.Test.YtmdakplaaehmnaaIe
namespace Go.Proofs.Ytmdakplaaehmnaa
open Go.RowKit
set_option maxHeartbeats 4000000

set_option maxRecDepth 100000 in
theorem equalR_any (A A' : Option Addr) (n n' c c' : Nat) (l l' : List Im.Rw) (w : World) (hl : RowsIn w A n c l) (hl' : RowsIn w A' n' c' l') (hn : n ≤ 17592186044416) (hn' : n' ≤ 17592186044416) :
    Calls Try.prog 34 #[.slice A n c, .slice A' n' c'] w fun e w' => e = .returned (.bool (decide (l = l'))) ∧ Below w.heap.size w w' := by
  have HL := Lib.hid hl
  have HL' := Lib.hid hl'
  clear hl hl'
  by_cases hnn : n = n'
  · subst hnn
    have b0 : ((n : Int) != (n : Int)) = false := by simp
    go_enter Try.func34, Try.ntmps34
    go_wp2_with fail
    go_loopw [13] (fun i wq => ∃ a q : Nat, a ≤ n ∧ i = .int .i64 a ∧ wq = w.drewN q ∧ ∀ j (h : j < l.length) (h' : j < l'.length), j < a → l[j] = l'[j]) (fun i _ => n - (intOf i).toNat)
    case atStart => exact ⟨0, 0, by omega, rfl, rfl, fun j _ _ h => absurd h (by omega)⟩
    case round =>
      obtain ⟨a, q, ha, rfl, rfl, hin⟩ := hrel
      have HIN := Lib.hid hin
      clear hin
      by_cases hlt : a < n
      · have d9 : decide ((a : Int) < (n : Int)) = true := by simp; omega
        obtain ⟨g, o, rfl, hg, hz, y0, y1, y2⟩ := HL.out.at hlt
        obtain ⟨g', o', rfl, hg', hz', y0', y1', y2'⟩ := HL'.out.at hlt
        obtain ⟨x, hx⟩ : ∃ x, l[a] = x := ⟨_, rfl⟩
        obtain ⟨x', hx'⟩ : ∃ x, l'[a] = x := ⟨_, rfl⟩
        rw [hx] at y0 y1 y2
        rw [hx'] at y0' y1' y2'
        have hrow := row_eq_is x x'
        obtain ⟨p0, p1, p2⟩ := x
        obtain ⟨p0', p1', p2'⟩ := x'
        simp only at y0 y1 y2 y0' y1' y2' hrow
        obtain ⟨S, hS⟩ : ∃ S, Cm.b p2 = S := ⟨_, rfl⟩
        obtain ⟨S', hS'⟩ : ∃ S, Cm.b p2' = S := ⟨_, rfl⟩
        rw [hS] at y2 hrow
        rw [hS'] at y2' hrow
        have j3 : (0 : Int) ≤ (a : Int) := by omega
        have j4 : (a : Int) < (n : Int) := by omega
        by_cases he : (p0, p1, p2) = (p0', p1', p2')
        · rw [decide_eq_true he] at hrow
          have HN := Lib.hid (show ∀ j (h : j < l.length) (h' : j < l'.length), j < a + 1 → l[j] = l'[j] from fun j h h' hj => by
            by_cases e : j = a
            · subst e; rw [hx, hx', he]
            · exact HIN.out j h h' (by omega))
          clear hx hx' hg hg' he hz hz' hS hS'
          go_wp2_with fail
          go_quiet (fail)
          go_wp2_with fail
          go_roundw
          case rel => exact ⟨a + 1, _, by omega, by go_num, rfl, HN.out⟩
          case measure => simp [intOf]; omega
        · rw [decide_eq_false he] at hrow
          have HF := Lib.hid (show decide (l = l') = false from decide_eq_false (fun e => he (by subst e; rw [← hx, ← hx'])))
          clear hx hx' hg hg' he hz hz' hS hS'
          go_wp2_with fail
          go_quiet (fail)
          go_wp2_with fail
          go_ret
          exact ⟨by rw [HF.out]; rfl, below_drewN (below_drewN (Below.refl _ _) _) _⟩
      · obtain rfl : a = n := by omega
        have d9 : decide ((a : Int) < (a : Int)) = false := by simp
        have HF := Lib.hid (show decide (l = l') = true from decide_eq_true (List.ext_getElem (by rw [HL.out.1, HL'.out.1]) (fun i h h' => HIN.out i h h' (by rw [HL.out.1] at h; exact h))))
        go_wp2_with fail
        go_ret
        exact ⟨by rw [HF.out]; rfl, below_drewN (Below.refl _ _) _⟩
  · have b0 : ((n : Int) != (n' : Int)) = true := by simp; omega
    have b1 : ((n : Int) == (n' : Int)) = false := by simp; omega
    have HF := Lib.hid (show decide (l = l') = false from decide_eq_false (fun e => hnn (by rw [← HL.out.1, ← HL'.out.1, e])))
    go_enter Try.func34, Try.ntmps34
    go_wp2_with fail
    go_ret
    exact ⟨by rw [HF.out]; rfl, (Below.refl _ _)⟩

set_option maxRecDepth 100000 in
theorem same_any (A A' : Option Addr) (n n' c c' : Nat) (l l' : List Im.Rw) (w : World) (hl : RowsIn w A n c l) (hl' : RowsIn w A' n' c' l') (hn : n ≤ 17592186044416) (hn' : n' ≤ 17592186044416) :
    Calls Try.prog 20 #[.agg #[.slice A n c], .agg #[.slice A' n' c']] w fun e w' => e = .returned (.bool (decide (l = l'))) ∧ Below w.heap.size w w' := by
  have C1 := Lib.hid (fun V (hV : Below w.heap.size w V) => equalR_any A A' n n' c c' l l' V (hl.below hV) (hl'.below hV) hn hn')
  have hb : Below w.heap.size w ((w.alloc (.cells #[.slice A n c] 25)).alloc (.cells #[.slice A' n' c'] 25)) := ((Below.refl _ _).alloc (Nat.le_refl _) _).alloc (by simp) _
  clear hl hl'
  have g3 : ((w.alloc (.cells #[.slice A n c] 25)).alloc (.cells #[.slice A' n' c'] 25)).cell? ⟨w.heap.size, 0, none⟩ = some (.slice A n c) := by
    rw [World.cell?_alloc_lt _ _ _ (by simp), cell_new_at _ _ _ _ rfl]; rfl
  have g4 : ((w.alloc (.cells #[.slice A n c] 25)).alloc (.cells #[.slice A' n' c'] 25)).cell? ⟨w.heap.size + 1, 0, none⟩ = some (.slice A' n' c') := by
    rw [cell_new_at _ _ _ _ (by simp)]; rfl
  go_enter Try.func20, Try.ntmps20
  go_wp2_with (first | (go_at_call 34; with_reducible refine (C1.out _ hb).mono ?_; rintro e w2 ⟨rfl, hb2⟩) | fail)
  go_ret
  exact ⟨rfl, hb.trans (hb2.mono hb.size)⟩

end Go.Proofs.Ytmdakplaaehmnaa
