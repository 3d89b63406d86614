/-
  Contracts of device: areEmpty, without (slices.Delete), with (slices.Insert).
-/
import Derived.Test.YthdkidiemhfffaaEa
import Derived.Test.YthdkidiemhfffaaRowk
import Derived.Shelf.SlicesG.Delete
import Derived.Shelf.Spec.SlicesInsert
import Derived.Shelf.Spec.SlicesInsertGrow
import Derived.Sort.OwnSortedInts
namespace Go.Proofs.Ythdkidiemhfffaa
open Go.RowKit Go.Shelf Go.Sort
set_option maxHeartbeats 2000000

theorem Dv.pos_split {l : List Int} (h : l.Pairwise (· < ·)) (m : Int) : l.take (Dv.pos l m) = l.filter (fun x => decide (x < m)) ∧ l.drop (Dv.pos l m) = l.filter (fun x => decide (m ≤ x)) := by
  unfold Dv.pos
  induction l with
  | nil => simp
  | cons a r ih =>
    rw [List.pairwise_cons] at h
    obtain ⟨i1, i2⟩ := ih h.2
    by_cases ha : a < m
    · have e1 : (a :: r).countP (fun x => decide (x < m)) = r.countP (fun x => decide (x < m)) + 1 := by rw [List.countP_cons]; simp [ha]
      rw [e1, List.take_succ_cons, List.drop_succ_cons, i1, i2]
      have hb : ¬ m ≤ a := by omega
      simp [ha, hb]
    · have e0 : r.countP (fun x => decide (x < m)) = 0 := by
        rw [List.countP_eq_zero]; intro x hx; have := h.1 x hx; simp; omega
      have e1 : (a :: r).countP (fun x => decide (x < m)) = 0 := by rw [List.countP_cons, e0]; simp [ha]
      have e2 : r.filter (fun x => decide (x < m)) = [] := by
        rw [List.filter_eq_nil_iff]; intro x hx; have := h.1 x hx; simp; omega
      have e3 : r.filter (fun x => decide (m ≤ x)) = r := by
        rw [List.filter_eq_self]; intro x hx; have := h.1 x hx; simp; omega
      have hb : m ≤ a := by omega
      rw [e1]
      simp [ha, hb, e2, e3]
theorem Dv.del_none {l : List Int} {m : Int} (h : m ∉ l) : Dv.del l m = l := by
  unfold Dv.del; rw [List.filter_eq_self]; intro x hx; simp; rintro rfl; exact h hx
theorem Dv.drop_pos {l : List Int} (h : l.Pairwise (· < ·)) {m : Int} (hm : m ∈ l) : Dv.pos l m < l.length ∧ l.drop (Dv.pos l m + 1) = l.filter (fun x => decide (m < x)) := by
  have hs := Dv.pos_split h m
  have key : ∀ l : List Int, l.Pairwise (· < ·) → m ∈ l → l.filter (fun x => decide (m ≤ x)) = m :: l.filter (fun x => decide (m < x)) := by
    intro l
    induction l with
    | nil => intro _ h; cases h
    | cons a r ih =>
      intro h hm
      rw [List.pairwise_cons] at h
      rcases List.mem_cons.1 hm with rfl | hm
      · have e3 : r.filter (fun x => decide (m ≤ x)) = r := by
          rw [List.filter_eq_self]; intro x hx; have := h.1 x hx; simp; omega
        have e4 : r.filter (fun x => decide (m < x)) = r := by
          rw [List.filter_eq_self]; intro x hx; have := h.1 x hx; simpa using this
        simp [e3, e4]
      · have := h.1 m hm
        have h1 : ¬ m ≤ a := by omega
        have h2 : ¬ m < a := by omega
        simp [h1, h2, ih h.2 hm]
  have h2 := hs.2
  rw [key l h hm] at h2
  refine ⟨?_, ?_⟩
  · have := congrArg List.length h2
    simp at this; omega
  · rw [← List.drop_drop, h2]; simp
theorem Dv.del_take {l : List Int} (h : l.Pairwise (· < ·)) {m : Int} (hm : m ∈ l) : l.take (Dv.pos l m) ++ l.drop (Dv.pos l m + 1) = Dv.del l m := by
  rw [(Dv.pos_split h m).1, (Dv.drop_pos h hm).2]
  unfold Dv.del
  clear hm
  induction l with
  | nil => rfl
  | cons a r ih =>
    rw [List.pairwise_cons] at h
    have ih := ih h.2
    rcases Int.lt_trichotomy a m with h2 | h2 | h2
    · have h3 : ¬ m < a := by omega
      have h4 : a ≠ m := by omega
      simp only [List.filter_cons, h2, h3, h4, decide_true, decide_false, if_true, ne_eq, not_false_eq_true, List.cons_append, Bool.false_eq_true, if_false]
      rw [← ih]
    · subst h2
      have h3 : ¬ a < a := by omega
      simp only [List.filter_cons, h3, ne_eq, not_true_eq_false, decide_false, Bool.false_eq_true, if_false]
      rw [← ih]
    · have h3 : ¬ a < m := by omega
      have h4 : a ≠ m := by omega
      have e2 : r.filter (fun x => decide (x < m)) = [] := by
        rw [List.filter_eq_nil_iff]; intro x hx; have := h.1 x hx; simp; omega
      rw [e2] at ih
      simp only [List.filter_cons, h2, h3, h4, e2, decide_true, decide_false, if_true, ne_eq, not_false_eq_true, Bool.false_eq_true, if_false, List.nil_append]
      rw [List.nil_append] at ih
      rw [ih]
theorem Dv.ins_take {l : List Int} (h : l.Pairwise (· < ·)) {m : Int} (hm : m ∉ l) : l.take (Dv.pos l m) ++ m :: l.drop (Dv.pos l m) = Dv.ins l m := by
  rw [(Dv.pos_split h m).1, (Dv.pos_split h m).2]
  unfold Dv.ins
  congr 2
  apply List.filter_congr
  intro x hx
  have : x ≠ m := by rintro rfl; exact hm hx
  rw [decide_eq_decide]; omega
theorem Dv.ins_same {l : List Int} (h : l.Pairwise (· < ·)) {m : Int} (hm : m ∈ l) : Dv.ins l m = l := by
  unfold Dv.ins
  have h1 := (Dv.pos_split h m).1
  have h2 := (Dv.drop_pos h hm).2
  have h3 := (Dv.drop_pos h hm).1
  rw [← h1, ← h2]
  have e : l[Dv.pos l m] = m := by
    have hs := (Dv.pos_split h m).2
    rw [List.drop_eq_getElem_cons h3] at hs
    have hmem : l[Dv.pos l m] ∈ l.filter (fun x => decide (m ≤ x)) := by rw [← hs]; exact List.mem_cons_self
    have h5 : m ≤ l[Dv.pos l m] := by simpa using (List.mem_filter.1 hmem).2
    obtain ⟨j, hj, hjm⟩ := List.mem_iff_getElem.1 hm
    have hjp : ¬ j < Dv.pos l m := by
      intro hlt
      have : l[j] ∈ l.take (Dv.pos l m) := List.mem_take_iff_getElem.2 ⟨j, by omega, rfl⟩
      rw [h1, hjm] at this
      simpa using (List.mem_filter.1 this).2
    rcases Nat.lt_or_eq_of_le (Nat.le_of_not_lt hjp) with h6 | h6
    · have := List.pairwise_iff_getElem.1 h (Dv.pos l m) j h3 hj h6
      omega
    · subst_vars
      simp only [h6] at *
  conv => rhs; rw [← List.take_append_drop (Dv.pos l m) l, List.drop_eq_getElem_cons h3, e]

theorem delI_any (B g n c i : Nat) (l : List Int) (w : World) (ho : w.ownsRow B 3 1 (.slice (some ⟨g, 0, none⟩) n c) n (Dv.ints l)) (hi : i < n) :
    Calls Try.prog 54 #[.slice (some ⟨g, 0, none⟩) n c, .int .i64 i, .int .i64 ((i : Int) + 1)] w fun e w' => e = .returned (.slice (some ⟨g, 0, none⟩) (n - 1) c) ∧ w'.ownsRow B 3 1 (.slice (some ⟨g, 0, none⟩) (n - 1) c) (n - 1) (Dv.ints (l.take i ++ l.drop (i + 1))) ∧ Below B w w' := by
  have hll : l.length = n := by have := ho.1; simpa using this
  rcases ho.2 with ⟨h', _⟩ | ⟨g', cap', cur, hv, hB, hg, hnc, hcm, hcs, htake⟩
  · cases h'
  simp only [Value.slice.injEq, Option.some.injEq, Addr.mk.injEq, and_true, true_and] at hv
  obtain ⟨rfl, rfl⟩ := hv
  subst hll
  have hH := holds_of_blockI (ss := l) hg (by simpa using htake)
  have hcm' : c ≤ 9223372036854775807 := by unfold maxLen at hcm; omega
  have h := AnyG.slices_Delete_int Try.delInt g 0 c i (i + 1) l w hH hnc hcm' (by omega) (by omega)
  have e1 : (((i + 1 : Nat)) : Int) = (i : Int) + 1 := by simp
  rw [e1, Nat.add_sub_cancel_left] at h
  refine h.mono ?_
  rintro e w' ⟨rfl, q, rfl⟩
  have hlen : (l.take i ++ l.drop (i + 1) ++ List.replicate 1 (0 : Int)).length = l.length := by simp; omega
  have ho2 := ownsRow_sortedI (w := w) (n := q) (os := #[]) (base := B) (e := 3) (cap := c) hlen hB hg hnc hcm hcs
  rw [grow_empty] at ho2
  refine ⟨rfl, ?_, ?_⟩
  · have h2 := ownsRow_prefix ho2 (k := l.length - 1) (by omega)
    have e2 : ((l.take i ++ l.drop (i + 1) ++ List.replicate 1 (0 : Int)).map (Value.int .i64)).take ((l.length - 1) * 1) = Dv.ints (l.take i ++ l.drop (i + 1)) := by
      have h3 : (Dv.ints (l.take i ++ l.drop (i + 1))).length = (l.length - 1) * 1 := by simp; omega
      rw [List.map_append, ← h3]
      exact List.take_left
    rw [e2] at h2
    exact h2
  · refine ⟨rfl, rfl, rfl, by simp, fun k hk => ?_⟩
    have hne : g ≠ k := by omega
    simp [putRow, mapBlock, Sort.ahead, Array.getElem?_modify, hne]

set_option maxRecDepth 100000 in
theorem delD_any (A : Option Addr) (n c : Nat) (l : List Int) (m : Int) (w : World) (hl : SlIn w A n c (Dv.ints l)) (ha : l.Pairwise (· < ·)) :
    Calls Try.prog 48 #[.slice A n c, .int .i64 m] w fun e w' => ∃ v, e = .returned v ∧ w'.ownsRow w.heap.size 3 1 v (Dv.del l m).length (Dv.ints (Dv.del l m)) ∧ Below w.heap.size w w' := by
  have hll : l.length = n := by rw [← hl.1.1, List.length_map]
  have hn := hl.2.2
  have HN := Lib.hid (numsD_any A n c l w hl)
  have HA := Lib.hid ha
  have HLL := Lib.hid hll
  obtain ⟨B, hB⟩ : ∃ B, w.heap.size = B := ⟨_, rfl⟩
  rw [hB] at HN ⊢
  have HB := Lib.hid hB
  clear hl ha hll hB
  go_enter Try.func48, Try.ntmps48
  go_wp2_with fail
  refine HN.out.mono ?_
  rintro e w1 ⟨rfl, ho, hs1, hb1⟩
  have hS := SlIn.own ho hn
  have H2 := Lib.hid (bsI_any (some ⟨B, 0, none⟩) n n l m w1 hS HA.out)
  have HO := Lib.hid ho
  have HB1 := Lib.hid hb1
  clear ho hb1 hS
  by_cases hm : m ∈ l
  · have hd : decide (m ∈ l) = true := by simpa using hm
    rw [hd] at H2
    have hp := (Dv.drop_pos HA.out hm).1
    have HDT := Lib.hid (Dv.del_take HA.out hm)
    have HDL := Lib.hid (show (Dv.del l m).length = n - 1 from by rw [← HDT.out, List.length_append, List.length_take, List.length_drop, ← HLL.out]; omega)
    obtain ⟨p, hpp⟩ : ∃ p, Dv.pos l m = p := ⟨_, rfl⟩
    rw [hpp] at H2 HDT hp
    rw [HLL.out] at hp
    have hw1 : Below B w1 w1 := Below.refl _ _
    clear hd hm hpp
    go_wp2_with fail
    refine H2.out.mono ?_
    rintro e w2 ⟨rfl, hb2⟩
    have H3 := Lib.hid (delI_any B B n n p l w2 (own_below HO.out hb2) hp)
    have HB2 := Lib.hid (HB1.out.trans (hb2.mono (by omega)))
    clear hb2
    go_wp2_with fail
    refine H3.out.mono ?_
    rintro e w3 ⟨rfl, ho3, hb3⟩
    have HO3 := Lib.hid ho3
    have HB3 := Lib.hid (HB2.out.trans hb3)
    clear ho3 hb3
    go_wp2_with fail
    go_ret
    refine ⟨_, rfl, ?_, HB3.out⟩
    rw [HDL.out, ← HDT.out]; exact HO3.out
  · have hd : decide (m ∈ l) = false := by simpa using hm
    rw [hd] at H2
    have HDN := Lib.hid (Dv.del_none hm)
    clear hd hm
    go_wp2_with fail
    refine H2.out.mono ?_
    rintro e w2 ⟨rfl, hb2⟩
    have HO2 := Lib.hid (own_below HO.out hb2)
    have HB2 := Lib.hid (HB1.out.trans (hb2.mono (by omega)))
    clear hb2
    go_wp2_with fail
    go_ret
    refine ⟨_, rfl, ?_, HB2.out⟩
    rw [HDN.out, HLL.out]; exact HO2.out

theorem insI_any (B g n i vb : Nat) (l : List Int) (m : Int) (w : World) (ho : w.ownsRow B 3 1 (.slice (some ⟨g, 0, none⟩) n n) n (Dv.ints l)) (hv : w.cell? ⟨vb, 0, none⟩ = some (.int .i64 m)) (hi : i ≤ n) (hn : n ≤ 4096) (hB : B ≤ w.heap.size) :
    Calls Try.prog 55 #[.slice (some ⟨g, 0, none⟩) n n, .int .i64 i, .slice (some ⟨vb, 0, none⟩) 1 1] w fun e w' => ∃ v, e = .returned v ∧ w'.ownsRow B 3 1 v (n + 1) (Dv.ints (l.take i ++ m :: l.drop i)) ∧ Below B w w' := by
  have hll : l.length = n := by have := ho.1; simpa using this
  have hcs : ∀ j v, (Dv.ints l)[j]? = some v → w.cell? ⟨g, 0 + j, none⟩ = some v := fun j v hj => by
    have hj' : j < (Dv.ints l).length := (List.getElem?_eq_some_iff.1 hj).1
    rw [Nat.zero_add, World.ownsRow.cellAt ho j (by rw [ho.1] at hj'; exact hj')]
    exact hj
  have hvs : ∀ j v, ([Value.int .i64 m] : List Value)[j]? = some v → w.cell? ⟨vb, 0 + j, none⟩ = some v := fun j v hj => by
    match j, hj with
    | 0, hj => rw [← hj]; exact hv
    | j + 1, hj => simp at hj
  have hK := grownCap_ge w (n + 1) n 3
  have hK2 := grownCap_le_maxLen w (n + 1) n 3 (by unfold maxLen; omega)
  obtain ⟨K, hKe⟩ : ∃ K, grownCap w (n + 1) n 3 = K := ⟨_, rfl⟩
  rw [hKe] at hK hK2
  by_cases hin : i = n
  · subst hin
    have h := Any2.slices_Insert_int_end_grow Try.insInt (some ⟨g, 0, none⟩) i i vb 0 1 1 (Dv.ints l) [.int .i64 m] w (by omega) (Nat.le_refl _) (by omega) (by omega) (by simp [hll]) rfl (fun h => by cases h) (fun a ha j v hj => by
      injection ha with ha
      subst ha
      have e1 : (⟨g, 0, none⟩ : Addr).add j = ⟨g, 0 + j, none⟩ := by unfold Addr.add; split <;> simp_all
      rw [e1]; exact hcs j v hj) hvs (by simp [Value.oneCell'])
    refine h.mono ?_
    rintro e w' ⟨rfl, hw⟩
    have hw : w' = w.drew.alloc (.cells ((Dv.ints l ++ [Value.int .i64 m]).toArray ++ Builtin.zeroCells (Value.int .i64 0).cells (K - (i + 1))) 3) := by rw [← hKe]; exact hw
    refine ⟨.slice (some ⟨w.heap.size, 0, none⟩) (i + 1) K, by rw [← hKe]; rfl, ?_, ?_⟩
    · have e2 : Dv.ints (l.take i ++ m :: l.drop i) = Dv.ints l ++ [Value.int .i64 m] := by
        rw [List.take_of_length_le (by omega), List.drop_of_length_le (by omega)]; simp
      rw [e2, hw]
      refine ⟨by simp [hll], .inr ⟨w.heap.size, K, _, rfl, hB, heap_alloc_new w.drew _, hK, hK2, ?_, ?_⟩⟩
      · simp only [Array.size_append, List.size_toArray, List.length_append, List.length_map, List.length_cons, List.length_nil, hll, size_zeroCells]
        have : (Value.int .i64 0).cells.size = 1 := rfl
        rw [this]; omega
      · have e3 : (i + 1) * 1 = (Dv.ints l ++ [Value.int .i64 m]).length := by simp [hll]
        rw [Array.toList_append, e3]
        exact List.take_left
    · rw [hw]; exact ((Below.refl _ _).drew).alloc hB _
  · have h := Any2.slices_Insert_int_grow Try.insInt g 0 n n i vb 0 1 1 (Dv.ints l) [.int .i64 m] w (by omega) (by omega) (Nat.le_refl _) (by omega) (by omega) (by simp [hll]) rfl hcs hvs (Dv.ints_one l) (by simp [Value.oneCell'])
    refine h.mono ?_
    rintro e w' ⟨rfl, hw⟩
    obtain ⟨C, hC⟩ : ∃ C, ((Dv.ints l).take i).toArray ++ Builtin.zeroCells (Value.int .i64 0).cells (n + 1 - i) ++ Builtin.zeroCells (Value.int .i64 0).cells (K - (n + 1)) = C := ⟨_, rfl⟩
    have h1 : (Value.int .i64 0).cells.size = 1 := rfl
    have hCs : C.size = K := by
      rw [← hC]
      simp only [Array.size_append, List.size_toArray, List.length_take, List.length_map, hll, size_zeroCells, h1]
      omega
    have hCt : C.toList.take i = (Dv.ints l).take i := by
      rw [← hC, Array.append_assoc, Array.toList_append, List.take_append_of_le_length (by simp [hll]; omega)]
      simp [List.take_take]
    have hw : w' = (((w.alloc (.cells C 3)).drew.setCells w.heap.size i [.int .i64 m]).drew).setCells w.heap.size (i + 1) ((Dv.ints l).drop i) := by rw [← hC, ← hKe]; exact hw
    refine ⟨.slice (some ⟨w.heap.size, 0, none⟩) (n + 1) K, by rw [← hKe]; rfl, ?_, ?_⟩
    · have h0 : (w.alloc (.cells C 3)).ownsRow B 3 1 (.slice (some ⟨w.heap.size, 0, none⟩) (n + 1) K) (n + 1) (C.toList.take ((n + 1) * 1)) :=
        ⟨by rw [List.length_take, Array.length_toList]; omega, .inr ⟨w.heap.size, K, _, rfl, hB, heap_alloc_new w _, hK, hK2, by omega, rfl⟩⟩
      have h2 := ownsRow_setCells ((Dv.ints l).drop i) (i + 1) _ _ (ownsRow_setCells [.int .i64 m] i _ _ h0.drew).drew
      rw [← hw] at h2
      have hxl : (C.toList.take ((n + 1) * 1)).length = n + 1 := by rw [List.length_take, Array.length_toList]; omega
      rw [setMany_eq [.int .i64 m] _ i (by rw [hxl]; simp; omega)] at h2
      have hx0 : (C.toList.take ((n + 1) * 1)).take i = (Dv.ints l).take i := by rw [List.take_take, Nat.min_eq_left (by omega), hCt]
      rw [hx0] at h2
      have hdl : ((C.toList.take ((n + 1) * 1)).drop (i + [Value.int .i64 m].length)).length = n - i := by rw [List.length_drop, hxl]; simp
      generalize (C.toList.take ((n + 1) * 1)).drop (i + [Value.int .i64 m].length) = R at h2 hdl
      have htl : ((Dv.ints l).take i ++ [Value.int .i64 m]).length = i + 1 := by simp [hll]; omega
      rw [setMany_eq _ _ _ (by rw [List.length_append, htl, hdl, List.length_drop, List.length_map, hll]; omega)] at h2
      have e4 : ((Dv.ints l).take i ++ [Value.int .i64 m] ++ R).take (i + 1) = (Dv.ints l).take i ++ [Value.int .i64 m] := by rw [← htl]; exact List.take_left
      have e5 : ((Dv.ints l).take i ++ [Value.int .i64 m] ++ R).drop (i + 1 + ((Dv.ints l).drop i).length) = [] := by
        apply List.drop_of_length_le
        rw [List.length_append, htl, hdl, List.length_drop, List.length_map, hll]
        omega
      rw [e4, e5, List.append_nil] at h2
      have e6 : Dv.ints (l.take i ++ m :: l.drop i) = (Dv.ints l).take i ++ [Value.int .i64 m] ++ (Dv.ints l).drop i := by
        simp [List.map_take, List.map_drop]
      rw [e6]
      exact h2
    · rw [hw]
      exact Below_setCells _ _ _ _ (Below_setCells _ _ _ _ (((Below.refl _ _).alloc hB _).drew) hB).drew hB

set_option maxRecDepth 100000 in
theorem insD_any (A : Option Addr) (n c : Nat) (l : List Int) (m : Int) (w : World) (hl : SlIn w A n c (Dv.ints l)) (hn : n ≤ 4096) (ha : l.Pairwise (· < ·)) :
    Calls Try.prog 49 #[.slice A n c, .int .i64 m] w fun e w' => ∃ v, e = .returned v ∧ w'.ownsRow w.heap.size 3 1 v (Dv.ins l m).length (Dv.ints (Dv.ins l m)) ∧ Below w.heap.size w w' := by
  have hll : l.length = n := by rw [← hl.1.1, List.length_map]
  have HN := Lib.hid (numsD_any A n c l w hl)
  have HA := Lib.hid ha
  have HLL := Lib.hid hll
  obtain ⟨B, hB⟩ : ∃ B, w.heap.size = B := ⟨_, rfl⟩
  rw [hB] at HN ⊢
  have HB := Lib.hid hB
  clear hl ha hll hB
  go_enter Try.func49, Try.ntmps49
  go_wp2_with fail
  refine HN.out.mono ?_
  rintro e w1 ⟨rfl, ho, hs1, hb1⟩
  have hS := SlIn.own ho (by omega)
  have H2 := Lib.hid (bsI_any (some ⟨B, 0, none⟩) n n l m w1 hS HA.out)
  have HO := Lib.hid ho
  have HB1 := Lib.hid hb1
  clear ho hb1 hS
  by_cases hm : m ∈ l
  · have hd : decide (m ∈ l) = true := by simpa using hm
    rw [hd] at H2
    have HIS := Lib.hid (Dv.ins_same HA.out hm)
    clear hd hm
    go_wp2_with fail
    refine H2.out.mono ?_
    rintro e w2 ⟨rfl, hb2⟩
    have HO2 := Lib.hid (own_below HO.out hb2)
    have HB2 := Lib.hid (HB1.out.trans (hb2.mono (by omega)))
    clear hb2
    go_wp2_with fail
    go_ret
    refine ⟨_, rfl, ?_, HB2.out⟩
    rw [HIS.out, HLL.out]; exact HO2.out
  · have hd : decide (m ∈ l) = false := by simpa using hm
    rw [hd] at H2
    have HDT := Lib.hid (Dv.ins_take HA.out hm)
    have hp := Dv.pos_le l m
    rw [HLL.out] at hp
    obtain ⟨p, hpp⟩ : ∃ p, Dv.pos l m = p := ⟨_, rfl⟩
    rw [hpp] at H2 HDT hp
    have HDL := Lib.hid (show (Dv.ins l m).length = n + 1 from by rw [← HDT.out, List.length_append, List.length_take, List.length_cons, List.length_drop, HLL.out]; omega)
    clear hd hm hpp
    go_wp2_with fail
    refine H2.out.mono ?_
    rintro e w2 ⟨rfl, hb2⟩
    have hs2 := hb2.size
    obtain ⟨w3, hw3⟩ : ∃ V, w2.alloc (.cells #[.int .i64 m] 3) = V := ⟨_, rfl⟩
    have hb3 : Below w2.heap.size w2 w3 := by rw [← hw3]; exact (Below.refl _ _).alloc (Nat.le_refl _) _
    have hs3 := hb3.size
    have H3 := Lib.hid (insI_any B B n p w2.heap.size l m w3 (own_below (own_below HO.out hb2) hb3) (by rw [← hw3, cell_new_at _ _ _ _ rfl]; rfl) hp hn (by omega))
    have HB2 := Lib.hid ((HB1.out.trans (hb2.mono (by omega))).trans (hb3.mono (by omega)))
    have HW3 := Lib.hid hw3
    clear hb2 hb3 hw3
    go_wp2_with fail
    rw [HW3.out]
    refine H3.out.mono ?_
    rintro e w4 ⟨v, rfl, ho4, hb4⟩
    have HO4 := Lib.hid ho4
    have HB4 := Lib.hid (HB2.out.trans hb4)
    clear ho4 hb4
    go_wp2_with fail
    go_ret
    refine ⟨_, rfl, ?_, HB4.out⟩
    rw [HDL.out, ← HDT.out]; exact HO4.out

/-- ascending numbers of empty blocks -/
def Dv.Emp (l : List Int) (bl : List ByteArray) : Prop := Dv.Nums l bl.length ∧ ∀ i (h : i < bl.length), (i : Int) ∈ l → bl[i] = ByteArray.empty
open Classical in
noncomputable def Dv.empB (l : List Int) (bl : List ByteArray) : Bool := decide (Dv.Emp l bl)
theorem Dv.empB_true {l : List Int} {bl : List ByteArray} : Dv.empB l bl = true ↔ Dv.Emp l bl := by unfold Dv.empB; simp
theorem Dv.empB_false {l : List Int} {bl : List ByteArray} : Dv.empB l bl = false ↔ ¬ Dv.Emp l bl := by unfold Dv.empB; simp
/-- what the next number must be at least -/
def Dv.Least (l : List Int) (k : Nat) (L : Int) : Prop := (k = 0 ∧ L = 0) ∨ ∃ h : 0 < k ∧ k ≤ l.length, L = l[k - 1]'(by omega) + 1
theorem Dv.Least.zero {l : List Int} {k : Nat} {L : Int} (h : Dv.Least l k L) (h0 : ∀ x ∈ l, 0 ≤ x) : 0 ≤ L := by
  rcases h with ⟨_, rfl⟩ | ⟨h, rfl⟩
  · exact Int.le_refl _
  · have := h0 (l[k - 1]'(by omega)) (List.getElem_mem _); omega

set_option maxRecDepth 100000 in
theorem empD_any (A A' : Option Addr) (n n' c c' : Nat) (l : List Int) (bl : List ByteArray) (w : World) (hl : SlIn w A n c (Dv.ints l)) (hb : SlIn w A' n' c' (Dv.strs bl)) :
    Calls Try.prog 38 #[.slice A n c, .slice A' n' c'] w fun e w' => e = .returned (.bool (Dv.empB l bl)) ∧ w = w' := by
  have hn := hl.2.2
  have hn' := hb.2.2
  have hll : l.length = n := by rw [← hl.1.1, List.length_map]
  have hbl : bl.length = n' := by rw [← hb.1.1, List.length_map]
  obtain ⟨r, hr⟩ : ∃ r, Dv.empB l bl = r := ⟨_, rfl⟩
  rw [hr]
  have H := Lib.hid hl.1
  have H' := Lib.hid hb.1
  have HLL := Lib.hid hll
  have HBL := Lib.hid hbl
  have HR := Lib.hid hr
  clear hl hb hll hbl hr
  go_enter Try.func38, Try.ntmps38
  go_wp2
  go_loop [5, 10] (fun t i => ∃ (k : Nat) (L : Int), k ≤ n ∧ i = .int .i64 k ∧ t = .int .i64 L ∧ 0 ≤ L ∧ L ≤ (n' : Int) ∧ Dv.Least l k L ∧ (∀ j (hj : j < l.length), j < k → 0 ≤ l[j] ∧ l[j] < (n' : Int)) ∧ (∀ i j (hi : i < l.length) (hj : j < l.length), i < j → j < k → l[i] < l[j]) ∧ (∀ i (h : i < bl.length), (∃ j, ∃ hj : j < l.length, j < k ∧ l[j] = (i : Int)) → bl[i] = ByteArray.empty)) (fun _ i => n - (intOf i).toNat)
  case atStart => exact ⟨0, 0, by omega, rfl, rfl, by omega, by omega, .inl ⟨rfl, rfl⟩, fun j _ h => absurd h (by omega), fun i j _ _ _ h => absurd h (by omega), fun i _ ⟨j, _, h, _⟩ => absurd h (by omega)⟩
  case round =>
    obtain ⟨k, L, hk, rfl, rfl, hL0, hL1, hLe, ha, has, hem⟩ := hrel
    have HLe := Lib.hid hLe
    have HA := Lib.hid ha
    have HS := Lib.hid has
    have HE := Lib.hid hem
    clear ha has hem hLe
    by_cases hlt : k < n
    · obtain ⟨b, o, rfl, hbb, hz, g1⟩ := H.out.at hlt
      have hkl : k < l.length := by rw [HLL.out]; exact hlt
      rw [List.getElem_map] at g1
      obtain ⟨x, hx⟩ : ∃ x, l[k] = x := ⟨_, rfl⟩
      rw [hx] at g1
      have i0 : (0 : Int) ≤ (k : Int) := by omega
      have i1 : (k : Int) < (n : Int) := by omega
      have HX := Lib.hid (show ∃ h : k < l.length, l[k] = x from ⟨hkl, hx⟩)
      clear hx hz hkl
      by_cases he : x < L
      · have d0 : decide (x < L) = true := by simpa using he
        have hrf : r = false := by
          rw [← HR.out, Dv.empB_false]
          rintro ⟨hN, _⟩
          rcases HLe.out with ⟨_, hL⟩ | ⟨hh, hL⟩
          · have := (hN.rng _ (List.getElem_mem HX.out.1)).1
            rw [HX.out.2] at this; omega
          · have := List.pairwise_iff_getElem.1 hN.asc (k - 1) k (by omega) HX.out.1 (by omega)
            rw [HX.out.2] at this; omega
        subst hrf
        go_wp2_with fail
        go_ret
        exact ⟨rfl, rfl⟩
      have d0 : decide (x < L) = false := by simpa using he
      by_cases hxm : (n' : Int) ≤ x
      · have d1 : decide ((n' : Int) ≤ x) = true := by simpa using hxm
        have hrf : r = false := by
          rw [← HR.out, Dv.empB_false]
          rintro ⟨hN, _⟩
          have := (hN.rng _ (List.getElem_mem HX.out.1)).2
          rw [HX.out.2, HBL.out] at this; omega
        subst hrf
        go_wp2_with fail
        go_ret
        exact ⟨rfl, rfl⟩
      have d1 : decide ((n' : Int) ≤ x) = false := by simpa using hxm
      obtain ⟨q, rfl⟩ : ∃ q : Nat, x = (q : Int) := ⟨x.toNat, by omega⟩
      have hqn : q < n' := by omega
      obtain ⟨b', o', rfl, hbb', hz', g2⟩ := H'.out.at hqn
      have hql : q < bl.length := by rw [HBL.out]; exact hqn
      rw [List.getElem_map] at g2
      obtain ⟨s, hs⟩ : ∃ s, bl[q] = s := ⟨_, rfl⟩
      rw [hs] at g2
      have HQ := Lib.hid (show ∃ h : q < bl.length, bl[q] = s from ⟨hql, hs⟩)
      have j0 : (0 : Int) ≤ (q : Int) := by omega
      have j1 : (q : Int) < (n' : Int) := by omega
      clear hs hz' hql
      by_cases c2 : s = ByteArray.empty
      · have e2 : s.toList.isEmpty = true := by subst c2; exact Dv.empty_is
        have HC := Lib.hid c2
        clear c2
        have HA2 := Lib.hid (show ∀ j (hj : j < l.length), j < k + 1 → 0 ≤ l[j] ∧ l[j] < (n' : Int) from fun j hj h => by
          by_cases e : j = k
          · subst e; rw [HX.out.2]; omega
          · exact HA.out j hj (by omega))
        have HS2 := Lib.hid (show ∀ i j (hi : i < l.length) (hj : j < l.length), i < j → j < k + 1 → l[i] < l[j] from fun i j hi hj hij h => by
          by_cases e : j = k
          · subst e
            rw [HX.out.2]
            rcases HLe.out with ⟨h0, _⟩ | ⟨hh, hL⟩
            · omega
            · by_cases e2 : i = j - 1
              · subst e2; omega
              · have := HS.out i (j - 1) hi (by omega) (by omega) (by omega)
                omega
          · exact HS.out i j hi hj hij (by omega))
        have HE2 := Lib.hid (show ∀ i (h : i < bl.length), (∃ j, ∃ hj : j < l.length, j < k + 1 ∧ l[j] = (i : Int)) → bl[i] = ByteArray.empty from fun i h ⟨j, hj, hjk, hji⟩ => by
          by_cases e : j = k
          · subst e
            rw [HX.out.2] at hji
            obtain rfl : q = i := by omega
            rw [HQ.out.2]; exact HC.out
          · exact HE.out i h ⟨j, hj, by omega, hji⟩)
        have HL2 := Lib.hid (show Dv.Least l (k + 1) ((q : Int) + 1) from .inr ⟨⟨by omega, by have := HX.out.1; omega⟩, by
          have := HX.out.2
          simp only [Nat.add_sub_cancel]
          rw [this]⟩)
        go_wp2_with fail
        go_round
        case rel => exact ⟨k + 1, (q : Int) + 1, by omega, by go_num, rfl, by omega, by omega, HL2.out, HA2.out, HS2.out, HE2.out⟩
        case measure => simp [intOf]; omega
      · have e2 : s.toList.isEmpty = false := Dv.empty_not c2
        have hrf : r = false := by
          rw [← HR.out, Dv.empB_false]
          rintro ⟨_, hN⟩
          have := hN q HQ.out.1 (by rw [← HX.out.2]; exact List.getElem_mem HX.out.1)
          rw [HQ.out.2] at this; exact c2 this
        subst hrf
        clear c2
        go_wp2_with fail
        go_ret
        exact ⟨rfl, rfl⟩
    · obtain rfl : k = n := by omega
      have hrt : r = true := by
        rw [← HR.out, Dv.empB_true]
        refine ⟨⟨fun x hx => ?_, ?_⟩, fun i h hi => ?_⟩
        · obtain ⟨j, hj, rfl⟩ := List.mem_iff_getElem.1 hx
          rw [HBL.out]
          exact HA.out j hj (by rw [← HLL.out]; exact hj)
        · rw [List.pairwise_iff_getElem]
          intro i j hi hj hij
          exact HS.out i j hi hj hij (by rw [← HLL.out]; exact hj)
        · obtain ⟨j, hj, e⟩ := List.mem_iff_getElem.1 hi
          exact HE.out i h ⟨j, hj, by rw [← HLL.out]; exact hj, e⟩
      subst hrt
      go_wp2
      go_ret
      exact ⟨rfl, rfl⟩

end Go.Proofs.Ythdkidiemhfffaa
