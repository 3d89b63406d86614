/-
  Contracts of the reference of refs: Same.
-/
import Derived.Test.YtmdakplaaehmnaaId
import Derived.Test.YtmdakplaaehmnaaChF
import Derived.WalkSmall
import Derived.Laws.StructEq
namespace Go.Proofs.Ytmdakplaaehmnaa
open Go.RowKit
set_option maxHeartbeats 2000000

/-- two rows are compared -/
theorem row_eq (a b a' b' : Int) (s t : ByteArray) (W : World) : (Op.equalIn 10000 37 (.agg #[.int .i64 a, .int .i64 b, .string s]) (.agg #[.int .i64 a', .int .i64 b', .string t])).run Try.prog W = .ok (decide ((a, b, s.toList) = (a', b', t.toList))) W := by
  have hS : Try.prog.underlying 37 = some (.struct (Try.prog.fieldsOf 37)) := by kernel_rfl
  have u3 := Try.underlying3
  have u9 := Try.underlying9
  rw [show (10000 : Nat) = 9999 + 1 from rfl, run_equalIn_agg W 9999 37 _ _ hS (by kernel_rfl)]
  simp only [Program.fieldsOf, Try.underlying37]
  go_simp
  by_cases h1 : a = a'
  · by_cases h3 : b = b'
    · by_cases h2 : s.toList = t.toList
      · simp [h1, h2, h3]
      · simp [h1, h2, h3]
    · simp [h1, h3]
  · simp [h1]
theorem row_eq_is (x y : Im.Rw) (W : World) : (Op.equalIn 10000 37 (.agg #[.int .i64 x.1, .int .i64 x.2.1, .string (Cm.b x.2.2)]) (.agg #[.int .i64 y.1, .int .i64 y.2.1, .string (Cm.b y.2.2)])).run Try.prog W = .ok (decide (x = y)) W := by
  rw [row_eq]
  congr 1
  obtain ⟨a, b, s⟩ := x
  obtain ⟨a', b', t⟩ := y
  refine decide_eq_decide.2 ⟨fun h => ?_, fun h => by injection h with h1 h2; injection h2 with h2 h3; subst h1 h2 h3; rfl⟩
  injection h with h1 h2
  injection h2 with h2 h3
  have h4 := Cm.b_inj (toList_inj h3)
  simp only at h1 h2 h4
  rw [h1, h2, h4]

set_option maxRecDepth 100000 in
theorem rsameI_any (A A' : Option Addr) (n n' c c' : Nat) (l l' : List Im.Rw) (w : World) (hl : RowsIn w A n c l) (hl' : RowsIn w A' n' c' l') (hn : n ≤ 17592186044416) (hn' : n' ≤ 17592186044416) :
    Calls Try.prog 21 #[.agg #[.slice A n c], .agg #[.slice A' n' c']] w fun e w' => e = .returned (.bool (decide (l = l'))) ∧ Below w.heap.size w w' := by
  obtain ⟨B, hB⟩ : ∃ B, w.heap.size = B := ⟨_, rfl⟩
  obtain ⟨w1, hw1⟩ : ∃ V, (w.alloc (.cells #[.slice A n c] 25)).alloc (.cells #[.slice A' n' c'] 25) = V := ⟨_, rfl⟩
  have hb1 : Below B w w1 := by rw [← hw1, ← hB]; exact ((Below.refl _ _).alloc (Nat.le_refl _) _).alloc (by simp) _
  have hs1 : w1.heap.size = B + 2 := by rw [← hw1]; simp [hB]
  have g3 : w1.cell? ⟨B, 0, none⟩ = some (.slice A n c) := by
    rw [← hw1, ← hB, World.cell?_alloc_lt _ _ _ (by simp), cell_new_at _ _ _ _ rfl]; rfl
  have g4 : w1.cell? ⟨B + 1, 0, none⟩ = some (.slice A' n' c') := by
    rw [← hw1, ← hB, cell_new_at _ _ _ _ (by simp)]; rfl
  have HL := Lib.hid (hl.below (hB ▸ hb1))
  have HL' := Lib.hid (hl'.below (hB ▸ hb1))
  have HW1 := Lib.hid hw1
  have HB1 := Lib.hid hb1
  clear hl hl' hw1 hb1
  by_cases hnn : n = n'
  · subst hnn
    have b0 : ((n : Int) != (n : Int)) = false := by simp
    rw [hB]
    go_enter Try.func21, Try.ntmps21
    go_wp2_with fail
    rw [HW1.out]
    go_wp2_with fail
    clear hB
    go_loopw [16] (fun i wq => ∃ a q : Nat, a ≤ n ∧ i = .int .i64 a ∧ wq = w1.drewN q ∧ ∀ j (h : j < l.length) (h' : j < l'.length), j < a → l[j] = l'[j]) (fun i _ => n - (intOf i).toNat)
    case atStart => exact ⟨0, 0, by omega, rfl, rfl, fun j _ _ h => absurd h (by omega)⟩
    case round =>
      obtain ⟨a, q, ha, rfl, rfl, hin⟩ := hrel
      have HIN := Lib.hid hin
      clear hin
      by_cases hlt : a < n
      · have d9 : decide ((a : Int) < (n : Int)) = true := by simp; omega
        obtain ⟨g, o, rfl, hg, hz, y0, y1, y2⟩ := HL.out.at hlt
        obtain ⟨g', o', rfl, hg', hz', y0', y1', y2'⟩ := HL'.out.at hlt
        obtain ⟨x, hx⟩ : ∃ x, l[a] = x := ⟨_, rfl⟩
        obtain ⟨x', hx'⟩ : ∃ x, l'[a] = x := ⟨_, rfl⟩
        rw [hx] at y0 y1 y2
        rw [hx'] at y0' y1' y2'
        have hrow := row_eq_is x x'
        obtain ⟨p0, p1, p2⟩ := x
        obtain ⟨p0', p1', p2'⟩ := x'
        simp only at y0 y1 y2 y0' y1' y2' hrow
        obtain ⟨S, hS⟩ : ∃ S, Cm.b p2 = S := ⟨_, rfl⟩
        obtain ⟨S', hS'⟩ : ∃ S, Cm.b p2' = S := ⟨_, rfl⟩
        rw [hS] at y2 hrow
        rw [hS'] at y2' hrow
        have j3 : (0 : Int) ≤ (a : Int) := by omega
        have j4 : (a : Int) < (n : Int) := by omega
        by_cases he : (p0, p1, p2) = (p0', p1', p2')
        · rw [decide_eq_true he] at hrow
          have HN := Lib.hid (show ∀ j (h : j < l.length) (h' : j < l'.length), j < a + 1 → l[j] = l'[j] from fun j h h' hj => by
            by_cases e : j = a
            · subst e; rw [hx, hx', he]
            · exact HIN.out j h h' (by omega))
          clear hx hx' hg hg' he hz hz' hS hS'
          go_wp2_with fail
          go_quiet (fail)
          go_wp2_with fail
          go_roundw
          case rel => exact ⟨a + 1, _, by omega, by go_num, rfl, HN.out⟩
          case measure => simp [intOf]; omega
        · rw [decide_eq_false he] at hrow
          have HF := Lib.hid (show decide (l = l') = false from decide_eq_false (fun e => he (by subst e; rw [← hx, ← hx'])))
          clear hx hx' hg hg' he hz hz' hS hS'
          go_wp2_with fail
          go_quiet (fail)
          go_wp2_with fail
          go_ret
          exact ⟨by rw [HF.out]; rfl, below_drewN (below_drewN HB1.out _) _⟩
      · obtain rfl : a = n := by omega
        have d9 : decide ((a : Int) < (a : Int)) = false := by simp
        have HF := Lib.hid (show decide (l = l') = true from decide_eq_true (List.ext_getElem (by rw [HL.out.1, HL'.out.1]) (fun i h h' => HIN.out i h h' (by rw [HL.out.1] at h; exact h))))
        go_wp2_with fail
        go_ret
        exact ⟨by rw [HF.out]; rfl, below_drewN HB1.out _⟩
  · have b0 : ((n : Int) != (n' : Int)) = true := by simp; omega
    have b1 : ((n : Int) == (n' : Int)) = false := by simp; omega
    have HF := Lib.hid (show decide (l = l') = false from decide_eq_false (fun e => hnn (by rw [← HL.out.1, ← HL'.out.1, e])))
    rw [hB]
    go_enter Try.func21, Try.ntmps21
    go_wp2_with fail
    rw [HW1.out]
    go_wp2_with fail
    go_ret
    exact ⟨by rw [HF.out]; rfl, HB1.out⟩

end Go.Proofs.Ytmdakplaaehmnaa
