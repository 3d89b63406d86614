/-
  Contract of slices.Insert at rows: one row put into a row of rows of one's own.
  Contract of slices.Insert at rows: where there is no room.
-/
import Derived.Test.YtmdakplaaehmnaaJd
import Derived.Deep.AppendLies
namespace Go.Proofs.Ytmdakplaaehmnaa
open Go.RowKit Go.Lib
set_option maxHeartbeats 4000000

theorem grown_put {α : Type} {p Z vs q : List α} {i n : Nat} (hi : i < n) (hp : p.length = i * 3) (hZ : Z.length = (n + 1 - i) * 3) (hv : vs.length = 3) (hq : q.length = (n - i) * 3) :
    (((p ++ Z).take (i * 3) ++ vs ++ (p ++ Z).drop (i * 3 + 1 * 3)).take ((i + 1) * 3)) ++ q ++ (((p ++ Z).take (i * 3) ++ vs ++ (p ++ Z).drop (i * 3 + 1 * 3)).drop ((i + 1) * 3 + (n - i) * 3)) = p ++ vs ++ q := by
  have e1 : (p ++ Z).take (i * 3) = p := List.take_left' hp
  have e2 : (p ++ vs).length = (i + 1) * 3 := by simp [hp, hv]; omega
  have e3 : ∀ R, (p ++ vs ++ R).take ((i + 1) * 3) = p ++ vs := fun R => List.take_left' e2
  rw [e1, e3, List.drop_of_length_le (by simp only [List.length_append, List.length_drop, hp, hZ, hv]; omega), List.append_nil]
theorem shifted_put {xs vs : List Value} {z0 z1 z2 : Value} {i n : Nat} (hi : i ≤ n) (hx : xs.length = n * 3) :
    (shifted3 xs z0 z1 z2 i).take (i * 3) ++ vs ++ (shifted3 xs z0 z1 z2 i).drop (i * 3 + 1 * 3) = xs.take (i * 3) ++ vs ++ xs.drop (i * 3) := by
  have e1 : ((xs ++ [z0, z1, z2]).take ((i + 1) * 3)).length = (i + 1) * 3 := by simp [hx]; omega
  have e2 : (shifted3 xs z0 z1 z2 i).take (i * 3) = xs.take (i * 3) := by
    unfold shifted3
    rw [List.take_append_of_le_length (by rw [e1]; omega), List.take_take, Nat.min_eq_left (by omega), List.take_append_of_le_length (by rw [hx]; omega)]
  have e3 : (shifted3 xs z0 z1 z2 i).drop (i * 3 + 1 * 3) = xs.drop (i * 3) := by
    unfold shifted3
    exact List.drop_left' (by rw [e1]; omega)
  rw [e2, e3]

def Im.vals (x : Im.Rw) : List Value := [.int .i64 x.1, .int .i64 x.2.1, .string (Cm.b x.2.2)]
theorem Im.vals_one (x : Im.Rw) : ∀ u ∈ Im.vals x, u.oneCell' = true := fun u hu => by
  unfold Im.vals at hu
  simp only [List.mem_cons, List.not_mem_nil, or_false] at hu
  rcases hu with rfl | rfl | rfl <;> rfl
theorem Im.vals_at {w : World} {vb : Nat} {x : Im.Rw} (hv : w.heap[vb]? = some (.cells #[.int .i64 x.1, .int .i64 x.2.1, .string (Cm.b x.2.2)] 37 (0, 0))) :
    ∀ j u, (Im.vals x)[j]? = some u → w.cell? ((⟨vb, 0, none⟩ : Addr).add j) = some u := fun j u hj => by
  have e1 : (⟨vb, 0, none⟩ : Addr).add j = ⟨vb, 0 + j, none⟩ := by unfold Addr.add; split <;> simp_all
  rw [e1, Nat.zero_add]
  unfold Im.vals at hj
  simp only [World.cell?, hv]
  simpa using hj
theorem Im.put_length {l : List Im.Rw} {x : Im.Rw} {i n : Nat} (hn : l.length = n) (hi : i ≤ n) : (l.take i ++ x :: l.drop i).length = n + 1 := by
  simp only [List.length_append, List.length_cons, List.length_take, List.length_drop]; omega
theorem RowsOwn.put {w : World} {B : Nat} {v : Value} {l : List Im.Rw} {x : Im.Rw} {i n : Nat} (hn : l.length = n) (hi : i ≤ n) (h : w.ownsRow B 37 3 v (n + 1) ((Im.cells l).take (i * 3) ++ Im.vals x ++ (Im.cells l).drop (i * 3))) : RowsOwn w B v (l.take i ++ x :: l.drop i) := by
  unfold RowsOwn
  rw [Im.cells_put, Im.put_length hn hi]
  exact h

set_option maxRecDepth 100000 in
/-- at the end -/
theorem insertEnd_any (B : Nat) (A : Option Addr) (n c vb : Nat) (l : List Im.Rw) (x : Im.Rw) (w : World) (ho : RowsOwn w B (.slice A n c) l) (hln : l.length = n) (hn : n ≤ 4096) (hB : B ≤ w.heap.size)
    (hv : w.heap[vb]? = some (.cells #[.int .i64 x.1, .int .i64 x.2.1, .string (Cm.b x.2.2)] 37 (0, 0))) :
    Calls Try.prog 38 #[.slice A n c, .int .i64 n, .slice (some ⟨vb, 0, none⟩) 1 1] w fun e w' => ∃ v', e = .returned v' ∧ RowsOwn w' B v' (l.take n ++ x :: l.drop n) ∧ Below B w w' := by
  obtain ⟨i0, hi, hz0, hz1, hz2⟩ := info_parts info_row
  have hown : w.ownsRow B 37 3 (.slice A n c) n (Im.cells l) := by unfold RowsOwn at ho; rw [hln] at ho; exact ho
  have hvs := Im.vals_at hv
  have HOW := Lib.hid hown
  have HV := Lib.hid hvs
  have HLN := Lib.hid hln
  have HO := Lib.hid ho
  have hA : (∃ b, A = some ⟨b, 0, none⟩ ∧ n ≤ c) ∨ (A = none ∧ n = 0 ∧ c = 0) := by
    rcases ho.2 with ⟨h0, h1⟩ | ⟨g', cap', cur, h', hg', hg, hnc, _⟩
    · injection h0 with a b d
      exact .inr ⟨a, by omega, d⟩
    · injection h' with a b d
      exact .inl ⟨g', a, by omega⟩
  clear ho hown hvs hv hln
  rcases hA with ⟨b, rfl, hnc⟩ | ⟨rfl, rfl, rfl⟩
  · have k1 : (0 : Int) ≤ (n : Int) := by omega
    go_enter Try.func38, Try.ntmps38
    go_wp2_with (first | (at_builtin; refine wpList_append_lies _ rfl _ _ 23 rfl B 37 i0 (.agg #[.int .i64 0, .int .i64 0, .string ByteArray.empty]) 3 32 Try.underlying23 hi hz0 hz1 hz2 rfl (by decide) _ _ _ rfl HOW.out ⟨vb, 0, none⟩ 1 1 (Im.vals x) rfl rfl HV.out (Im.vals_one x) (by omega) (by unfold maxLen; omega) (by omega) hB _ rfl ?_; intro gq cap5 w5 hown5 hgrow5 hat5 hlt5; have HO5 := Lib.hid hown5; have HG5 := Lib.hid hgrow5; clear hown5 hgrow5 hat5) | fail)
    all_goals go_ret
    all_goals refine ⟨_, rfl, RowsOwn.put HLN.out (Nat.le_refl _) ?_, (Below.refl B w).grown HG5.out hB (fun b hb => (World.ownsRow.lt HOW.out _ hb).1)⟩
    all_goals
     have e1 : (Im.cells l).take (n * 3) = Im.cells l := List.take_of_length_le (by rw [Im.cells_length, HLN.out]; exact Nat.le_refl _)
     have e2 : (Im.cells l).drop (n * 3) = [] := List.drop_of_length_le (by rw [Im.cells_length, HLN.out]; exact Nat.le_refl _)
     rw [e1, e2, List.append_nil]
     exact HO5.out
  · go_enter Try.func38, Try.ntmps38
    go_wp2_with (first | (at_builtin; refine wpList_append_lies _ rfl _ _ 23 rfl B 37 i0 (.agg #[.int .i64 0, .int .i64 0, .string ByteArray.empty]) 3 32 Try.underlying23 hi hz0 hz1 hz2 rfl (by decide) _ _ _ rfl HOW.out ⟨vb, 0, none⟩ 1 1 (Im.vals x) rfl rfl HV.out (Im.vals_one x) (by omega) (by unfold maxLen; omega) (by omega) hB _ rfl ?_; intro gq cap5 w5 hown5 hgrow5 hat5 hlt5; have HO5 := Lib.hid hown5; have HG5 := Lib.hid hgrow5; clear hown5 hgrow5 hat5) | fail)
    go_ret
    refine ⟨_, rfl, RowsOwn.put HLN.out (Nat.le_refl _) ?_, (Below.refl B w).grown HG5.out hB (fun b hb => (World.ownsRow.lt HOW.out _ hb).1)⟩
    have e0 : l = [] := List.eq_nil_of_length_eq_zero HLN.out
    subst e0
    exact HO5.out

set_option maxRecDepth 100000 in
/-- in place -/
theorem insertRoom_any (B g n c i vb : Nat) (l : List Im.Rw) (x : Im.Rw) (w : World) (ho : RowsOwn w B (.slice (some ⟨g, 0, none⟩) n c) l) (hln : l.length = n) (hn : n ≤ 4096) (hin : i < n) (hroom : n + 1 ≤ c) (hne : vb ≠ g)
    (hv : w.heap[vb]? = some (.cells #[.int .i64 x.1, .int .i64 x.2.1, .string (Cm.b x.2.2)] 37 (0, 0))) :
    Calls Try.prog 38 #[.slice (some ⟨g, 0, none⟩) n c, .int .i64 i, .slice (some ⟨vb, 0, none⟩) 1 1] w fun e w' => ∃ v', e = .returned v' ∧ RowsOwn w' B v' (l.take i ++ x :: l.drop i) ∧ Below B w w' := by
  obtain ⟨i0, hi, hz0, hz1, hz2⟩ := info_parts info_row
  have hown : w.ownsRow B 37 3 (.slice (some ⟨g, 0, none⟩) n c) n (Im.cells l) := by unfold RowsOwn at ho; rw [hln] at ho; exact ho
  have hcl : (Im.cells l).length = n * 3 := by rw [Im.cells_length, hln]
  have hgB : B ≤ g := (World.ownsRow.lt hown g rfl).1
  have hshape : ∃ k, w.shape? g = some (37, k) ∧ k ≠ 0 := by
    rcases hown.2 with ⟨h', _⟩ | ⟨g', cap', cur, h', _, hg, hnc, _, hcs, _⟩
    · cases h'
    · injection h' with a b d
      injection a with a
      injection a with a
      subst a d
      exact ⟨cur.size, by simp [World.shape?, hg], by omega⟩
  obtain ⟨kB, hsb, hkB⟩ := hshape
  have hsa : w.shape? vb = some (37, 3) := by simp [World.shape?, hv]
  have hfa : w.frozen? ⟨vb, 0, none⟩ = false := by simp [World.frozen?, hv]
  have hfe : w.frozen? ⟨vb, 3, none⟩ = false := by simp [World.frozen?, hv]
  have hov : ∀ lb cb, (callFunc 46 #[.slice (some ⟨vb, 0, none⟩) 1 1, .slice (some ⟨g, (i + 1) * 3, none⟩) lb cb]).run Try.prog w = .ok (.value (.bool false)) w := fun lb cb => by
    rw [run_callFunc_extern Try.func46 (by kernel_rfl) (by kernel_rfl) (by kernel_rfl) (e := Extern.SlicesOverlaps.overlaps #[23, 23] #[4]) (by kernel_rfl),
      Lib.run_overlaps_apart w 23 4 37 Try.underlying23 3 Try.sizeOf37 ⟨vb, 0, none⟩ ⟨g, (i + 1) * 3, none⟩ 1 1 lb cb hne 37 37 3 kB hsa hsb hkB hfa hfe]
    rfl
  obtain ⟨z0, z1, z2, hwide⟩ := own_wide3 hown hroom
  obtain ⟨w2, hrun2, ho2, hb2, hk2⟩ := own_shift3 (P := Try.prog) (w := w.drew) (T := 23) (ty := 3) Try.underlying23 hi hz1 hcl hwide (Im.cells_one l) (Nat.le_of_lt hin) (some ⟨g, (i + 1) * 3, none⟩) (c - (i + 1)) (c - i) (fun _ => rfl)
  have hv2 : w2.heap[vb]? = some (.cells #[.int .i64 x.1, .int .i64 x.2.1, .string (Cm.b x.2.2)] 37 (0, 0)) := (hk2 vb hne).trans hv
  obtain ⟨w3, hrun3, ho3, hb3, hk3, hs3⟩ := own_copy3 (P := Try.prog) (w := w2) (T := 23) (ty := 3) (j := i) (k := 1) Try.underlying23 hi hz1 ho2 (show (Im.vals x).length = 1 * 3 from rfl) (Im.vals_one x) (by omega) ⟨vb, 0, none⟩ (n + 1 - i) (c - i) 1 1 (Nat.min_eq_left (by omega)) (Im.vals_at hv2)
  rw [shifted_put (Nat.le_of_lt hin) hcl] at ho3
  have HF := Lib.hid (show RowsOwn w3 B (.slice (some ⟨g, 0, none⟩) (n + 1) c) (l.take i ++ x :: l.drop i) ∧ Below B w w3 from ⟨RowsOwn.put hln (Nat.le_of_lt hin) ho3, ((Below.refl B w).drew).trans ((hb2.mono hgB).trans (hb3.mono hgB))⟩)
  have HR2 := Lib.hid hrun2
  have HR3 := Lib.hid hrun3
  have e1 : IntKind.i64.wrap ((i : Int) + 1) = (i : Int) + 1 := by rw [IntKind.wrap_i64]; omega
  have e2 : IntKind.i64.wrap ((n : Int) + 1) = (n : Int) + 1 := by rw [IntKind.wrap_i64]; omega
  have q1 : ((i : Int) == (n : Int)) = false := beq_eq_false_iff_ne.2 (by omega)
  have q2 : decide ((c : Int) < (n : Int) + 1) = false := by simp; omega
  have k1 : (0 : Int) ≤ (i : Int) := by omega
  have k2 : (i : Int) ≤ (n : Int) := by omega
  have k3 : (0 : Int) ≤ (n : Int) + 1 := by omega
  have k4 : (n : Int) + 1 ≤ (c : Int) := by omega
  have k5 : (0 : Int) ≤ (i : Int) + 1 := by omega
  have k6 : (i : Int) + 1 ≤ (n : Int) + 1 := by omega
  have k7 : (i : Int) ≤ (n : Int) + 1 := by omega
  have t1 : ((i : Int) + 1).toNat = i + 1 := by omega
  have t2 : ((n : Int) + 1).toNat = n + 1 := by omega
  have n1 : ¬ c = i + 1 := by omega
  have n2 : ¬ c = i := by omega
  clear ho hown hcl hsb hsa hfa hfe hwide hrun2 ho2 hb2 hk2 hv2 hrun3 ho3 hb3 hk3 hs3 hv hln
  go_enter Try.func38, Try.ntmps38
  go_wp2_with (simp only [hov])
  go_region_law (refine step_copy_known3 rfl (.tmp 73) (.tmp 76) 23 rfl _ _ _ w2 (by simp [Act.eval, Act.put]) (by simp [Act.eval, Act.put]) HR2.out ?_)
  go_wp2_with fail
  rw [HR3.out]
  go_wp2_with fail
  go_ret
  exact ⟨_, rfl, HF.out.1, HF.out.2⟩

end Go.Proofs.Ytmdakplaaehmnaa

namespace Go.Proofs.Ytmdakplaaehmnaa
open Go.RowKit Go.Lib
set_option maxHeartbeats 4000000

set_option maxRecDepth 100000 in
theorem insertGrow_any (B g n c i vb : Nat) (l : List Im.Rw) (x : Im.Rw) (w : World) (ho : RowsOwn w B (.slice (some ⟨g, 0, none⟩) n c) l) (hln : l.length = n) (hn : n ≤ 4096) (hin : i < n) (hroom : c < n + 1) (hB : B ≤ w.heap.size)
    (hv : w.heap[vb]? = some (.cells #[.int .i64 x.1, .int .i64 x.2.1, .string (Cm.b x.2.2)] 37 (0, 0))) :
    Calls Try.prog 38 #[.slice (some ⟨g, 0, none⟩) n c, .int .i64 i, .slice (some ⟨vb, 0, none⟩) 1 1] w fun e w' => ∃ v', e = .returned v' ∧ RowsOwn w' B v' (l.take i ++ x :: l.drop i) ∧ Below B w w' := by
  obtain ⟨i0, hi, hz0, hz1, hz2⟩ := info_parts info_row
  have hown : w.ownsRow B 37 3 (.slice (some ⟨g, 0, none⟩) n c) n (Im.cells l) := by unfold RowsOwn at ho; rw [hln] at ho; exact ho
  have hcl : (Im.cells l).length = n * 3 := by rw [Im.cells_length, hln]
  obtain ⟨hgB, hgl⟩ := World.ownsRow.lt hown g rfl
  have hcn : n ≤ c := World.ownsRow.fits3 hown
  obtain rfl : c = n := by omega
  have hat : ∀ j u, (Im.cells l)[j]? = some u → w.cell? ⟨g, j, none⟩ = some u := fun j u hj => by
    have hjl : j < c * 3 := by rw [← hcl]; exact (List.getElem?_eq_some_iff.1 hj).1
    rw [World.ownsRow.cellAt hown j hjl, hj]
  have hold : (Builtin.firstCells i0.size i (.slice (some ⟨g, 0, none⟩) i c)).run Try.prog w.drew = .ok ((Im.cells l).take (i * 3)).toArray w.drew := by
    rw [hz1]
    exact run_firstCells_some w.drew 3 i ⟨g, 0, none⟩ i c ((Im.cells l).take (i * 3)) (by rw [List.length_take, hcl]; simp only [Nat.min_def]; split <;> omega) (fun j v hj => by
      rw [Addr.add_lit, Nat.zero_add]
      rw [List.getElem?_take] at hj
      split at hj
      · exact hat j v hj
      · cases hj)
  have hz3 : (Value.agg #[.int .i64 0, .int .i64 0, .string ByteArray.empty]).cells.size = 3 := rfl
  have hrz := Lib.run_append_grow_zeros (P := Try.prog) w 23 3 23 37 i0 _ .i64 .i64 Try.underlying23 Try.underlying3 hi hz0 (some ⟨g, 0, none⟩) i c ((Im.cells l).take (i * 3)) hold (c + 1 - i) (by omega) (by rw [hz1]; decide) (by omega) (by omega) (by rw [hz2]; omega) (by rw [hz2, show i + (c + 1 - i) = c + 1 by omega]; exact growslice_fits (by omega) (by omega))
  rw [show i + (c + 1 - i) = c + 1 by omega] at hrz
  have hGn : c + 1 ≤ grownCap w (c + 1) c 37 := grownCap_ge w _ _ _
  have hGm : grownCap w (c + 1) c 37 ≤ maxLen := grownCap_le_maxLen w (c + 1) c 37 (by unfold maxLen; omega)
  obtain ⟨G, hG⟩ : ∃ G, grownCap w (c + 1) c 37 = G := ⟨_, rfl⟩
  rw [hG] at hrz hGn hGm
  obtain ⟨Z, hZ⟩ : ∃ Z, Builtin.zeroCells (Value.agg #[.int .i64 0, .int .i64 0, .string ByteArray.empty]).cells (c + 1 - i) = Z := ⟨_, rfl⟩
  have hZl : Z.toList.length = (c + 1 - i) * 3 := by rw [← hZ, Array.length_toList]; simp only [Builtin.zeroCells, Array.size_map, Array.size_range, hz3]
  obtain ⟨Y, hY⟩ : ∃ Y, Builtin.zeroCells (Value.agg #[.int .i64 0, .int .i64 0, .string ByteArray.empty]).cells (G - (c + 1)) = Y := ⟨_, rfl⟩
  have hYl : Y.size = (G - (c + 1)) * 3 := by rw [← hY]; simp only [Builtin.zeroCells, Array.size_map, Array.size_range, hz3]
  rw [hZ, hY] at hrz
  obtain ⟨w1, hw1⟩ : ∃ V, w.drew.alloc (.cells (((Im.cells l).take (i * 3)).toArray ++ Z ++ Y) 37) = V := ⟨_, rfl⟩
  rw [hw1] at hrz
  obtain ⟨b, hb⟩ : ∃ b, w.heap.size = b := ⟨_, rfl⟩
  have hp : ((Im.cells l).take (i * 3)).length = i * 3 := by rw [List.length_take, hcl]; exact Nat.min_eq_left (by omega)
  have ho1 : w1.ownsRow B 37 3 (.slice (some ⟨b, 0, none⟩) (c + 1) G) (c + 1) ((Im.cells l).take (i * 3) ++ Z.toList) := by
    refine ⟨by rw [List.length_append, hp, hZl]; omega, .inr ⟨b, G, _, rfl, by omega, by rw [← hw1, ← hb]; exact heap_alloc_new w.drew _, hGn, hGm, ?_, ?_⟩⟩
    · have hz4 : Z.size = (c + 1 - i) * 3 := by rw [← hZl, Array.length_toList]
      simp only [Array.size_append, List.size_toArray, hp, hz4, hYl]; omega
    · rw [Array.toList_append, Array.toList_append, List.toList_toArray, List.take_append_of_le_length (by rw [List.length_append, hp, hZl]; omega), List.take_of_length_le (by rw [List.length_append, hp, hZl]; omega)]
  have hb1 : Below B w w1 := by rw [← hw1]; exact ((Below.refl B w).drew).alloc hB _
  have hvl : vb < w.heap.size := lt_of_block hv
  have hv1 : w1.heap[vb]? = some (.cells #[.int .i64 x.1, .int .i64 x.2.1, .string (Cm.b x.2.2)] 37 (0, 0)) := by rw [← hw1]; exact (Below.heap_alloc w.drew _ _ hvl).trans hv
  obtain ⟨w2, hrun2, ho2, hb2, hk2, hs2⟩ := own_copy3 (P := Try.prog) (w := w1) (T := 23) (ty := 3) (j := i) (k := 1) Try.underlying23 hi hz1 ho1 (show (Im.vals x).length = 1 * 3 from rfl) (Im.vals_one x) (by omega) ⟨vb, 0, none⟩ (c + 1 - i) (G - i) 1 1 (Nat.min_eq_left (by omega)) (Im.vals_at hv1)
  have hq : ((Im.cells l).drop (i * 3)).length = (c - i) * 3 := by rw [List.length_drop, hcl]; omega
  obtain ⟨w3, hrun3, ho3, hb3, hk3, hs3⟩ := own_copy3 (P := Try.prog) (w := w2.drew) (T := 23) (ty := 3) (j := i + 1) (k := c - i) (vs := (Im.cells l).drop (i * 3)) Try.underlying23 hi hz1 ho2 hq (fun u hu => Im.cells_one l u (List.mem_of_mem_drop hu)) (by omega) ⟨g, i * 3, none⟩ (c + 1 - (i + 1)) (G - (i + 1)) (c - i) (c - i) (Nat.min_eq_left (by omega)) (fun q v hq => by
      rw [Addr.add_lit]
      rw [List.getElem?_drop] at hq
      have h0 := hat _ _ hq
      have h1 : w1.cell? ⟨g, i * 3 + q, none⟩ = some v := by rw [← hw1]; exact (World.cell?_alloc_past (w := w.drew) _ g (i * 3 + q) hgl).trans h0
      have h2 : w2.cell? ⟨g, i * 3 + q, none⟩ = w1.cell? ⟨g, i * 3 + q, none⟩ := by
        simp only [World.cell?, hk2 g (by omega)]
      exact h2.trans h1)
  rw [grown_put hin hp hZl rfl hq] at ho3
  have hbB : B ≤ b := by omega
  have HF := Lib.hid (show RowsOwn w3 B (.slice (some ⟨b, 0, none⟩) (c + 1) G) (l.take i ++ x :: l.drop i) ∧ Below B w w3 from ⟨RowsOwn.put hln (Nat.le_of_lt hin) ho3, hb1.trans ((hb2.mono hbB).drew.trans (hb3.mono hbB))⟩)
  have e4 : (c : Int) + 1 - (i : Int) = ((c + 1 - i : Nat) : Int) := by omega
  rw [hb, ← e4] at hrz
  have HRZ := Lib.hid hrz
  have HR2 := Lib.hid hrun2
  have HR3 := Lib.hid hrun3
  have e1 : IntKind.i64.wrap ((i : Int) + 1) = (i : Int) + 1 := by rw [IntKind.wrap_i64]; omega
  have e2 : IntKind.i64.wrap ((c : Int) + 1) = (c : Int) + 1 := by rw [IntKind.wrap_i64]; omega
  have e3 : IntKind.i64.wrap ((c : Int) + 1 - (i : Int)) = (c : Int) + 1 - (i : Int) := by rw [IntKind.wrap_i64]; omega
  have q1 : ((i : Int) == (c : Int)) = false := beq_eq_false_iff_ne.2 (by omega)
  have q2 : decide ((c : Int) < (c : Int) + 1) = true := by simp; omega
  have k1 : (0 : Int) ≤ (i : Int) := by omega
  have k2 : (i : Int) ≤ (c : Int) := by omega
  have k5 : (0 : Int) ≤ (i : Int) + 1 := by omega
  have k6 : (i : Int) + 1 ≤ (c : Int) + 1 := by omega
  have k7 : (i : Int) ≤ (c : Int) + 1 := by omega
  have t1 : ((i : Int) + 1).toNat = i + 1 := by omega
  have n1 : ¬ G = i + 1 := by omega
  have n2 : ¬ G = i := by omega
  have n3 : ¬ c = i := by omega
  clear ho hown hcl hat hold hrz hZ hY hZl hYl hw1 hp ho1 hb1 hv1 hrun2 ho2 hb2 hk2 hs2 hq hrun3 ho3 hb3 hk3 hs3 hv hln hb hG hGn hGm e4
  go_enter Try.func38, Try.ntmps38
  go_wp2_with (first | (at_builtin; refine Lib.wpList_append_run _ rfl _ _ _ _ rfl _ _ rfl rfl _ _ HRZ.out ?_) | fail)
  rw [HR2.out]
  go_wp2_with fail
  go_region_law (refine step_copy_known3 rfl (.tmp 50) (.tmp 53) 23 rfl _ _ _ w3 (by simp [Act.eval, Act.put]) (by simp [Act.eval, Act.put]) HR3.out ?_)
  go_wp2_with fail
  go_ret
  exact ⟨_, rfl, HF.out.1, HF.out.2⟩

end Go.Proofs.Ytmdakplaaehmnaa
