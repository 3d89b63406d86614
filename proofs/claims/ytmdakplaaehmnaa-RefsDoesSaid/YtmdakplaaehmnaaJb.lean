/-
  Contracts of refs: find (with sort.Search).
-/
import Derived.Test.YtmdakplaaehmnaaId
import Derived.Test.YtmdakplaaehmnaaShelf9
import Derived.Shelf.SlSorted.Search
import Derived.Ground.SlsoProg
namespace Go.Proofs.Ytmdakplaaehmnaa
open Go.RowKit Go.Shelf Go.Sort
set_option maxHeartbeats 4000000

theorem Sort.grow_none' (W : World) : grow W #[] = W := by cases W; simp [grow]
theorem Im.count_find {l : List Im.Rw} (hA : Im.Asc l) (d : Int) : (List.range l.length).countP (fun i => !(decide (d ≤ (l.toArray[i]!).1))) = Im.find l d := by
  have h := Lib.countP_range l.toArray (fun r : Im.Rw => !(decide (d ≤ r.1)))
  have h2 : (List.range l.length).countP (fun i => !(decide (d ≤ (l.toArray[i]!).1))) = l.countP (fun r => !(decide (d ≤ r.1))) := by
    simpa using h
  rw [h2]
  unfold Im.find
  clear h h2
  induction l with
  | nil => rfl
  | cons x l ih =>
    have hA' := List.pairwise_cons.1 hA
    rw [List.countP_cons, List.findIdx_cons]
    by_cases hx : d ≤ x.1
    · have h0 : l.countP (fun r => !(decide (d ≤ r.1))) = 0 := by
        rw [List.countP_eq_zero]
        intro r hr
        have := hA'.1 r hr
        simp; omega
      simp [hx, h0]
    · rw [ih hA'.2]
      simp [hx]

set_option maxRecDepth 100000 in
/-- what the search asks at i -/
theorem searched_any (b1 b2 g o n c i : Nat) (a d : Int) (W : World) (hi : i < n) (h0 : W.cell? ⟨b1, 0, none⟩ = some (.slice (some ⟨g, o, none⟩) n c)) (h1 : W.cell? ⟨b2, 0, none⟩ = some (.int .i64 d)) (h2 : W.cell? ⟨g, o + i * 3, none⟩ = some (.int .i64 a)) :
    Calls Try.prog 44 (#[.int .i64 i] ++ #[.pointer (some ⟨b1, 0, none⟩), .pointer (some ⟨b2, 0, none⟩)]) W fun e w' => e = .returned (.bool (decide (d ≤ a))) ∧ ∃ q, w' = W.drewN q := by
  have hiz : (i : Int) < (n : Int) := by omega
  go_enter Try.func44, Try.ntmps44
  go_wp2
  go_region
  all_goals go_wp2
  all_goals go_ret
  all_goals exact ⟨rfl, 1, rfl⟩

set_option maxRecDepth 100000 in
theorem find_any (A : Option Addr) (n c : Nat) (l : List Im.Rw) (d : Int) (w : World) (hl : RowsIn w A n c l) (hA : Im.Asc l) (hn : n ≤ 17592186044416) :
    Calls Try.prog 35 #[.slice A n c, .int .i64 d] w fun e w' => e = .returned (.tuple #[.int .i64 (Im.find l d : Nat), .bool (Im.has l d)]) ∧ Below w.heap.size w w' := by
  have hln := hl.1
  obtain ⟨B, hB⟩ : ∃ B, w.heap.size = B := ⟨_, rfl⟩
  obtain ⟨w1, hw1⟩ : ∃ V, (w.alloc (.cells #[.slice A n c] 23)).alloc (.cells #[.int .i64 d] 3) = V := ⟨_, rfl⟩
  have hb1 : Below B w w1 := by rw [← hw1, ← hB]; exact ((Below.refl _ _).alloc (Nat.le_refl _) _).alloc (by simp) _
  have hs1 : w1.heap.size = B + 2 := by rw [← hw1]; simp [hB]
  have g0 : w1.cell? ⟨B, 0, none⟩ = some (.slice A n c) := by
    rw [← hw1, ← hB, World.cell?_alloc_lt _ _ _ (by simp), cell_new_at _ _ _ _ rfl]; rfl
  have g1 : w1.cell? ⟨B + 1, 0, none⟩ = some (.int .i64 d) := by
    rw [← hw1, cell_new_at _ _ _ _ (by simp [hB])]; rfl
  have hl1 : RowsIn w1 A n c l := hl.below (by rw [hB]; exact hb1)
  have hcall : Calls Try.prog 43 #[.int .i64 n, .func (.func 44) #[] #[.pointer (some ⟨B, 0, none⟩), .pointer (some ⟨B + 1, 0, none⟩)]] w1 fun e w' => e = .returned (.int .i64 (Im.find l d : Nat)) ∧ Below w1.heap.size w1 w' := by
    have h := Any.sort_Search Try.search 44 #[.pointer (some ⟨B, 0, none⟩), .pointer (some ⟨B + 1, 0, none⟩)] n (fun i => decide (d ≤ (l.toArray[i]!).1)) w1 (enters_of Try.func44 (by kernel_rfl) rfl) (by omega) (fun m os i hi => by
        obtain ⟨g, o, rfl, hg, hzl, y0, _, _⟩ := hl1.at hi
        have hb := below_grown_sl w1.heap.size w1 m os (Nat.le_refl _)
        have e : l.toArray[i]! = l[i] := by simp [hzl]
        have h := searched_any B (B + 1) g o n c i l[i].1 d (grow (w1.drewN m) os) hi ((hb.cell (p := ⟨B, 0, none⟩) (by show B < _; omega)).trans g0) ((hb.cell (p := ⟨B + 1, 0, none⟩) (by show B + 1 < _; omega)).trans g1) ((hb.cell (p := ⟨g, o + i * 3, none⟩) hg).trans y0)
        refine h.mono fun e' w' ⟨he, q, hq⟩ => ⟨by rw [he, e], q, #[], ?_⟩
        rw [hq]; exact (Sort.grow_none' _).symm) (fun a b hab hb h => by
        have ha' : a < l.length := by omega
        have hb' : b < l.length := by omega
        simp only [decide_eq_true_eq] at h ⊢
        have ea : l.toArray[a]! = l[a] := by simp [ha']
        have eb : l.toArray[b]! = l[b] := by simp [hb']
        rw [ea] at h
        rw [eb]
        rcases Nat.lt_or_ge a b with hlt | hge
        · have := List.pairwise_iff_getElem.1 hA a b ha' hb' hlt
          omega
        · have : a = b := by omega
          subst this; exact h)
    refine h.mono fun e w' ⟨he, q, os, hq⟩ => ⟨?_, ?_⟩
    · rw [he, ← hln, Im.count_find hA]
    · rw [hq]; exact below_grown_sl _ _ _ _ (Nat.le_refl _)
  have HC := Lib.hid hcall
  have HL1 := Lib.hid hl1
  have HW1 := Lib.hid hw1
  have HB1 := Lib.hid hb1
  have HLN := Lib.hid hln
  have HA := Lib.hid hA
  clear hl hw1 hb1 hl1 hcall hA
  rw [hB]
  have hfl := Im.find_le l d
  obtain ⟨p, hp⟩ : ∃ p, Im.find l d = p := ⟨_, rfl⟩
  by_cases hlt : p < n
  · obtain ⟨g, o, hAe, hg, hzl, y0, _, _⟩ := HL1.out.at hlt
    have HH := Lib.hid (show Im.has l d = decide (l[p].1 = d) by unfold Im.has; rw [hp, List.getElem?_eq_getElem hzl]; rfl)
    obtain ⟨a, ha⟩ : ∃ a, l[p].1 = a := ⟨_, rfl⟩
    rw [ha] at HH y0
    subst hAe
    obtain ⟨q, e7⟩ : ∃ q : Bool, (a == d) = q := ⟨_, rfl⟩
    have HQ := Lib.hid (show decide (a = d) = q by rw [← e7]; exact (Bool.beq_eq_decide_eq a d).symm)
    rw [hp] at HC ⊢
    have d8 : decide ((p : Int) < (n : Int)) = true := by simp; omega
    clear hp ha
    go_enter Try.func35, Try.ntmps35
    go_wp2_with fail
    rw [HW1.out]
    clear hB
    refine HC.out.mono ?_
    rintro e w2 ⟨rfl, hb2⟩
    have f0 := (hb2.cell (p := ⟨B, 0, none⟩) (by show B < _; omega)).trans g0
    have f1 := (hb2.cell (p := ⟨B + 1, 0, none⟩) (by show B + 1 < _; omega)).trans g1
    have f2 := (hb2.cell (p := ⟨g, o + p * 3, none⟩) hg).trans y0
    have HB2 := Lib.hid (HB1.out.trans (hb2.mono (by omega)))
    clear hb2
    go_wp2_with fail
    go_region
    all_goals go_wp2_with fail
    all_goals refine bodyPost_ret (v := .tuple #[.int .i64 p, .bool q]) (by simp [results, Try.results35, go_sem]) rfl ⟨?_, HB2.out.drew⟩
    all_goals rw [HH.out, HQ.out]
  · have hpn : p = n := by omega
    have HH := Lib.hid (show Im.has l d = false by unfold Im.has; rw [hp, List.getElem?_eq_none (by omega)]; rfl)
    rw [hp] at HC ⊢
    have d8 : decide ((p : Int) < (n : Int)) = false := by simp; omega
    clear hp hpn
    go_enter Try.func35, Try.ntmps35
    go_wp2_with fail
    rw [HW1.out]
    clear hB
    refine HC.out.mono ?_
    rintro e w2 ⟨rfl, hb2⟩
    have f0 := (hb2.cell (p := ⟨B, 0, none⟩) (by show B < _; omega)).trans g0
    have f1 := (hb2.cell (p := ⟨B + 1, 0, none⟩) (by show B + 1 < _; omega)).trans g1
    have HB2 := Lib.hid (HB1.out.trans (hb2.mono (by omega)))
    clear hb2
    go_wp2_with fail
    go_region
    all_goals go_wp2_with fail
    all_goals refine bodyPost_ret (v := .tuple #[.int .i64 p, .bool false]) (by simp [results, Try.results35, go_sem]) rfl ⟨?_, HB2.out.drew⟩
    all_goals rw [HH.out]

end Go.Proofs.Ytmdakplaaehmnaa
