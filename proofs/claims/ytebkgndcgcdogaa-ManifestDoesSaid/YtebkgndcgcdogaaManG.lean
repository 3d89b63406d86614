/-
  slices.SortFunc at pairs of numbers: laid here; sorted by cmp.Or of two cmp.Compare.
  slices.Compact at names, on a row of one's own.
  Contracts of manifest: sorted (with slices.Clone, slices.SortFunc, slices.Compact).
  Contracts of manifest: without (with slices.BinarySearchFunc), Change (with cmp.Or).
  Contract of manifest: Change (with cmp.Or).
-/
import Derived.Test.YtebkgndcgcdogaaNames
import Derived.Test.YtebkgndcgcdogaaShelf
import Derived.Shelf.SlSortCmp.NoneTotal
import Derived.Shelf.SlicesG.Cmp
import Derived.Ground.SlsfProg
import Derived.Ground.SlgcProg
import Derived.Test.YtebkgndcgcdogaaVd
import Derived.Test.YtebkgndcgcdogaaCopy
import Derived.Lib.SlicesCompact
import Derived.Lib.SliceRun
import Derived.Laws.OwnMore
import Derived.Test.YtebkgndcgcdogaaManA
import Derived.Shelf.SlicesE.Clone
import Derived.Ground.SlgnProg
import Derived.Test.YtebkgndcgcdogaaVf
import Derived.Deep.RegionHeld3
namespace Go.Proofs.Ytebkgndcgcdogaa
open Go.RowKit Go.Shelf Go.Lib Go.Sort
set_option maxHeartbeats 4000000

/-- by the first number, then by the second -/
def Vm.cf (x y : Vm.Nm) : Int := if Lib.compareInt x.1 y.1 = 0 then Lib.compareInt x.2 y.2 else Lib.compareInt x.1 y.1
def Vm.encN (x : Vm.Nm) : List Value := [.int .i64 x.1, .int .i64 x.2]

theorem or_any (g : Nat) (r s : Int) (W : World) (h0 : W.cell? ⟨g, 0, none⟩ = some (.int .i64 r)) (h1 : W.cell? ⟨g, 1, none⟩ = some (.int .i64 s)) :
    Calls Try.prog 84 #[.slice (some ⟨g, 0, none⟩) 2 2] W fun e w' => e = .returned (.int .i64 (if r = 0 then s else r)) ∧ w' = W := by
  have hx : (if r = 0 then s else r) = (if r = 0 then s else r) := rfl
  by_cases hr : r = 0
  · subst hr
    by_cases hs : s = 0
    · subst hs
      go_enter Try.func84, Try.ntmps84
      go_wp2
      refine wp_loop_rounds 3 ?_
      rw [rounds_succ]
      go_wp2
      rw [rounds_succ]
      go_wp2
      rw [rounds_succ]
      go_wp2
      go_ret
      exact ⟨rfl, rfl⟩
    · have n1 : (s != 0) = true := by simpa using hs
      rw [if_pos rfl]
      clear hx hs
      go_enter Try.func84, Try.ntmps84
      go_wp2
      refine wp_loop_rounds 3 ?_
      rw [rounds_succ]
      go_wp2
      rw [rounds_succ]
      go_wp2
      go_ret
      exact ⟨rfl, rfl⟩
  · have n0 : (r != 0) = true := by simpa using hr
    rw [if_neg hr]
    clear hx hr
    go_enter Try.func84, Try.ntmps84
    go_wp2
    refine wp_loop_rounds 3 ?_
    rw [rounds_succ]
    go_wp2
    go_ret
    exact ⟨rfl, rfl⟩

theorem compare_any (x y : Vm.Nm) (W : World) : Calls Try.prog 68 #[.agg #[.int .i64 x.1, .int .i64 x.2], .agg #[.int .i64 y.1, .int .i64 y.2]] W fun e w' => e = .returned (.int .i64 (Vm.cf x y)) ∧ ∃ q os', w' = grow (W.drewN q) os' := by
  have hcon := fun a b W' => AnyG.cmp_Compare_int Try.cmpInt a b W'
  change ∀ a b W', Calls Try.prog 85 _ _ _ at hcon
  have C1 := hcon x.1 y.1
  have C2 := hcon x.2 y.2
  clear hcon
  obtain ⟨a, b⟩ := x
  obtain ⟨c, d⟩ := y
  simp only at C1 C2 ⊢
  unfold Vm.cf
  simp only
  obtain ⟨r, hr⟩ : ∃ r, Lib.compareInt a c = r := ⟨_, rfl⟩
  obtain ⟨s, hs⟩ : ∃ s, Lib.compareInt b d = s := ⟨_, rfl⟩
  rw [hr] at C1 ⊢
  rw [hs] at C2 ⊢
  obtain ⟨x, hx⟩ : ∃ x, (if r = 0 then s else r) = x := ⟨_, rfl⟩
  rw [hx]
  have HX := Lib.hid hx
  clear hx
  go_enter Try.func68, Try.ntmps68
  go_wp2_with (first | (go_at_call 85; refine (C1 _).mono ?_; rintro e w' ⟨rfl, rfl⟩) | (go_at_call 85; refine (C2 _).mono ?_; rintro e w' ⟨rfl, rfl⟩) | fail)
  clear hr hs
  obtain ⟨b0, hb0⟩ : ∃ b, W.heap.size = b := ⟨_, rfl⟩
  rw [hb0]
  obtain ⟨V, hV⟩ : ∃ V, (W.alloc (.cells #[.int .i64 a, .int .i64 b] 59)).alloc (.cells #[.int .i64 c, .int .i64 d] 59) = V := ⟨_, rfl⟩
  have hVg : V = grow W (#[.cells #[.int .i64 a, .int .i64 b] 59] ++ #[.cells #[.int .i64 c, .int .i64 d] 59]) := by rw [← hV, alloc_eq_grow, alloc_eq_grow, grow_grow]
  have y0 : V.cell? ⟨b0, 0, none⟩ = some (.int .i64 a) := by rw [← hV]; exact (World.cell?_alloc_lt _ _ _ (by show b0 < _; simp [hb0])).trans (cell_new_at _ _ _ _ hb0.symm 0)
  have y1 : V.cell? ⟨b0, 1, none⟩ = some (.int .i64 b) := by rw [← hV]; exact (World.cell?_alloc_lt _ _ _ (by show b0 < _; simp [hb0])).trans (cell_new_at _ _ _ _ hb0.symm 1)
  have y2 : V.cell? ⟨b0 + 1, 0, none⟩ = some (.int .i64 c) := by rw [← hV]; exact cell_new_at _ _ _ _ (by simp [hb0]) 0
  have y3 : V.cell? ⟨b0 + 1, 1, none⟩ = some (.int .i64 d) := by rw [← hV]; exact cell_new_at _ _ _ _ (by simp [hb0]) 1
  have HVg := Lib.hid hVg
  rw [hV]
  clear hV hVg
  have O1 := fun U h0 h1 => or_any V.heap.size r s U h0 h1
  rw [HX.out] at O1
  have hvv : (V.alloc (.cells #[.int .i64 r, .int .i64 s] 3)).drew = grow (W.drewN 1) (#[.cells #[.int .i64 a, .int .i64 b] 59] ++ #[.cells #[.int .i64 c, .int .i64 d] 59] ++ #[.cells #[.int .i64 r, .int .i64 s] 3]) := by
    rw [HVg.out, alloc_eq_grow, grow_grow]; rfl
  have HV := Lib.hid hvv
  clear hvv
  go_region_law (first | (go_simp; go_at_call 85; with_reducible refine (C1 _).mono ?_; rintro e W2 ⟨rfl, rfl⟩) | (go_simp; go_at_call 85; with_reducible refine (C2 _).mono ?_; rintro e W2 ⟨rfl, rfl⟩) | (go_simp; go_at_call 84; refine (O1 _ (by rw [cell_drew]; exact cell_new_at _ _ _ _ rfl 0) (by rw [cell_drew]; exact cell_new_at _ _ _ _ rfl 1)).mono ?_; rintro e W2 ⟨rfl, rfl⟩) | fail)
  all_goals
    go_wp2
    go_ret
    exact ⟨rfl, 1, _, HV.out⟩

theorem Vm.cf_lt (x y : Vm.Nm) : ltOf Vm.cf x y = decide (Vm.lt x y) := by
  have h : Vm.cf x y < 0 ↔ Vm.lt x y := by
    unfold Vm.cf Vm.lt Lib.compareInt
    by_cases h1 : x.1 < y.1
    · simp [h1]
    · by_cases h2 : y.1 < x.1
      · simp [h1, h2] <;> omega
      · have h0 : x.1 = y.1 := by omega
        by_cases h3 : x.2 < y.2
        · simp [h0, h3]
        · by_cases h4 : y.2 < x.2 <;> simp [h0, h3, h4]
  unfold ltOf
  exact decide_eq_decide.2 h

theorem Vm.swo : SWO (ltOf Vm.cf) where
  irrefl x := by rw [Vm.cf_lt, decide_eq_false_iff_not]; exact Vm.lt_irrefl x
  trans x y z h1 h2 := by rw [Vm.cf_lt, decide_eq_true_iff] at *; exact Vm.lt_trans h1 h2
  ntrans x y z h1 h2 := by rw [Vm.cf_lt, decide_eq_false_iff_not] at *; unfold Vm.lt at *; omega

theorem Vm.flat_cells (d : Array Vm.Nm) : flatK Vm.encN 2 d = (Vm.cells d.toList).toArray := by
  refine ext_get! (by simp [Vm.cells_length]) fun t ht => ?_
  rw [size_flatK] at ht
  rw [get_flatK _ _ _ _ ht]
  obtain ⟨i, r, hr, rfl⟩ : ∃ i r, r < 2 ∧ t = i * 2 + r := ⟨t / 2, t % 2, by omega, by omega⟩
  have hi : i < d.toList.length := by simp; omega
  have hc := Vm.cells_get d.toList i hi
  have hd : d[i]! = d.toList[i] := by rw [getElem!_pos d i (by simpa using hi)]; simp
  rw [show (i * 2 + r) / 2 = i by omega, show (i * 2 + r) % 2 = r by omega, hd]
  have hx : (Vm.cells d.toList)[i * 2 + r]? = some (Vm.encN d.toList[i])[r]! := by
    match r, hr with
    | 0, _ => exact hc.1
    | 1, _ => exact hc.2
  simp only [List.getElem!_toArray, List.getElem!_eq_getElem?_getD, hx, Option.getD_some]

theorem own_sorted {w : World} {B g c n : Nat} {l l' : List Vm.Nm} (os : Array Obj) (h : NamesOwn w B (.slice (some ⟨g, 0, none⟩) l.length c) l) (hl : l'.length = l.length) :
    NamesOwn (sortWorldK Vm.encN 2 w g 0 n l'.toArray os) B (.slice (some ⟨g, 0, none⟩) l.length c) l' ∧ Below B w (sortWorldK Vm.encN 2 w g 0 n l'.toArray os) := by
  unfold NamesOwn at h ⊢
  rcases h.2 with ⟨e0, _⟩ | ⟨g', cap', cur, e0, hb, hg, hn, hm, hs, ht⟩
  · cases e0
  · injection e0 with e1 _ e3
    injection e1 with e1
    injection e1 with e1
    subst e1; subst e3
    have hgl := lt_of_block hg
    unfold sortWorldK putRowK
    rw [Vm.flat_cells, hl]
    constructor
    · refine ⟨by rw [Vm.cells_length, hl], .inr ⟨g, c, putCells id 0 (Vm.cells l').toArray cur, rfl, hb, ?_, hn, hm, by simpa [putCells] using hs, ?_⟩⟩
      · have : g < (putRow id (Sort.ahead w n) g 0 (Vm.cells l').toArray).heap.size := by simpa [putRow, mapBlock, Sort.ahead] using hgl
        simp only [grow]
        rw [Array.getElem?_append_left this]
        simp [putRow, mapBlock, Sort.ahead, Array.getElem?_modify, hg, onCells]
      · apply List.ext_getElem?
        intro j
        rw [List.getElem?_take, Array.getElem?_toList]
        have hlen := Vm.cells_length l'
        by_cases hj : j < l.length * 2
        · have hjc : j < cur.size := by omega
          simp only [if_pos hj, putCells, Array.getElem?_mapIdx, Array.getElem?_eq_getElem hjc, Option.map_some]
          rw [if_pos (by simp; omega), List.getElem?_eq_getElem (by omega)]
          simp [getElem!_pos, show j < (Vm.cells l').length by omega]
        · rw [if_neg hj, List.getElem?_eq_none (by omega)]
    · refine ⟨rfl, rfl, rfl, by simp [grow, putRow, mapBlock, Sort.ahead], fun k hk => ?_⟩
      have : k < (putRow id (Sort.ahead w n) g 0 (Vm.cells l').toArray).heap.size := by simp [putRow, mapBlock, Sort.ahead]; omega
      simp only [grow]
      rw [Array.getElem?_append_left this]
      simp [putRow, mapBlock, Sort.ahead, Array.getElem?_modify, show g ≠ k by omega]

theorem sort_any (B : Nat) (A : Option Addr) (c : Nat) (l : List Vm.Nm) (w : World) (h : NamesOwn w B (.slice A l.length c) l) (hl : l.length ≤ 17592186044416) :
    Calls Try.prog 67 #[.slice A l.length c, .func (.func 68) #[] #[]] w fun e w' => e = .returned (.tuple #[]) ∧ Below B w w' ∧ ∃ l', l'.Perm l ∧ l'.Pairwise (fun x y => ¬ Vm.lt y x) ∧ NamesOwn w' B (.slice A l.length c) l' := by
  by_cases h0 : l = []
  · subst h0
    have hcon := AnyF.slices_SortFunc_none { Try.sortNm with } A c (.func (.func 68) #[] #[]) w
    exact hcon.mono fun e w' ⟨he, hw⟩ => ⟨he, by rw [hw]; exact Below.refl _ _, [], List.Perm.refl _, List.Pairwise.nil, by rw [hw]; exact h⟩
  · have hown := h
    unfold NamesOwn at hown
    rcases hown.2 with ⟨e0, hz⟩ | ⟨g, cap, cur, e0, hb, hg, hn, hm, hs, ht⟩
    · exact absurd (List.eq_nil_of_length_eq_zero hz) h0
    · injection e0 with e1 _ e3
      subst e1; subst e3
      have hgl := lt_of_block hg
      have eg : ∀ args w, (callFunc 68 args).run Try.prog w = .ok (.enter 68 args) w := enters_of Try.func68 (by kernel_rfl) rfl
      have hH : HoldsK Vm.encN 2 w g 0 l.toArray := by
        unfold HoldsK
        rw [Vm.flat_cells]
        intro j hj
        have hj' : j < (Vm.cells l).length := by simpa using hj
        have hlen := Vm.cells_length l
        refine ⟨?_, by simp [World.frozen?, hg]⟩
        have e1 : (cur.toList.take (l.length * 2))[j]? = (Vm.cells l)[j]? := by rw [ht]
        rw [List.getElem?_take, if_pos (by omega), Array.getElem?_toList, List.getElem?_eq_getElem hj'] at e1
        simp only [World.cell?, hg, Nat.zero_add]
        simp only [Option.isSome_none, Bool.false_eq_true, if_false]
        rw [e1]
        simp [getElem!_pos, hj']
      have hcmp : CmpLays Try.prog 68 #[] Vm.encN 2 Vm.cf g 0 l.toArray.size w := fun _ _ _ _ x y => compare_any x y _
      have hcon := AnyQ.slices_SortFunc Try.sortNm 2 Try.isAgg59 Try.sizeOf59 Vm.encN (fun _ => rfl) (fun x v hv => by simp [Vm.encN] at hv; rcases hv with rfl | rfl <;> rfl) Vm.cf Vm.swo 68 #[] g 0 c l.toArray w eg hcmp hH hgl (by simp; omega)
      refine hcon.mono ?_
      rintro e w' ⟨he, d', n, os, hp, hso, rfl⟩
      obtain ⟨hps, _, hpp⟩ := hp
      have hlen : d'.toList.length = l.length := by simpa using hps
      have ho := own_sorted (n := n) os h hlen
      refine ⟨he, ho.2, d'.toList, ?_, ?_, ho.1⟩
      · have : d'.extract 0 l.toArray.size = d' := by rw [← hps]; simp
        rw [this] at hpp
        simpa using hpp
      · rw [List.pairwise_iff_getElem]
        intro i j hi hj hij hlt
        have := hso i j (Nat.zero_le _) hij (by simpa [hlen] using hj)
        rw [Vm.cf_lt] at this
        have hi' : i < d'.size := by simpa using hi
        have hj' : j < d'.size := by simpa using hj
        rw [getElem!_pos d' i hi', getElem!_pos d' j hj'] at this
        simp at this
        exact this (by simpa using hlt)

end Go.Proofs.Ytebkgndcgcdogaa

namespace Go.Proofs.Ytebkgndcgcdogaa
open Go.RowKit Go.Lib
set_option maxHeartbeats 4000000

theorem NamesOwn.rd {w : World} {B g c n : Nat} {l : List Vm.Nm} (h : NamesOwn w B (.slice (some ⟨g, 0, none⟩) n c) l) (hn : l.length = n) {j : Nat} (hj : j < l.length) :
    (w.cell? ⟨g, j * 2, none⟩ = some (.int .i64 l[j].1) ∧ w.cell? ⟨g, j * 2 + 1, none⟩ = some (.int .i64 l[j].2)) ∧ w.frozen? ⟨g, j * 2, none⟩ = false ∧ w.frozen? ⟨g, j * 2 + 1, none⟩ = false := by
  subst hn
  unfold NamesOwn at h
  have hc := Vm.cells_get l j hj
  refine ⟨⟨?_, ?_⟩, World.ownsRow.frozenAt h _, World.ownsRow.frozenAt h _⟩
  · rw [World.ownsRow.cellAt h _ (by omega)]; exact hc.1
  · rw [World.ownsRow.cellAt h _ (by omega)]; exact hc.2
theorem Vm.cells_set (l : List Vm.Nm) (x : Vm.Nm) : ∀ j, Vm.cells (l.set j x) = ((Vm.cells l).set (j * 2) (.int .i64 x.1)).set (j * 2 + 1) (.int .i64 x.2) := by
  induction l with
  | nil => intro j; simp [Vm.cells]
  | cons y l ih =>
    intro j
    have e : ∀ (y : Vm.Nm) (z : List Vm.Nm), Vm.cells (y :: z) = Value.int .i64 y.1 :: Value.int .i64 y.2 :: Vm.cells z := fun y z => rfl
    cases j with
    | zero => simp [e]
    | succ j => rw [List.set_cons_succ, e, ih j, e, show (j + 1) * 2 = j * 2 + 1 + 1 by omega]; simp
theorem NamesOwn.put {w : World} {B g c n : Nat} {l : List Vm.Nm} (h : NamesOwn w B (.slice (some ⟨g, 0, none⟩) n c) l) (hn : l.length = n) (x : Vm.Nm) (j : Nat) :
    NamesOwn ((w.setCell ⟨g, j * 2, none⟩ (.int .i64 x.1)).setCell ⟨g, j * 2 + 1, none⟩ (.int .i64 x.2)) B (.slice (some ⟨g, 0, none⟩) n c) (l.set j x) := by
  subst hn
  unfold NamesOwn at h ⊢
  rw [List.length_set, Vm.cells_set]
  exact (World.ownsRow.stored (World.ownsRow.stored h (j * 2) (.int .i64 x.1)).1 (j * 2 + 1) (.int .i64 x.2)).1
theorem NamesOwn.take {w : World} {B g c n : Nat} {l : List Vm.Nm} (h : NamesOwn w B (.slice (some ⟨g, 0, none⟩) n c) l) (hn : l.length = n) {k : Nat} (hk : k ≤ n) : NamesOwn w B (.slice (some ⟨g, 0, none⟩) k c) (l.take k) := by
  subst hn
  unfold NamesOwn at h ⊢
  rcases h.2 with ⟨e0, _⟩ | ⟨g', cap', cur, e0, hb, hg, hnc, hm, hs, ht⟩
  · cases e0
  · injection e0 with e1 _ e3
    injection e1 with e1
    injection e1 with e1
    subst e1 e3
    have hl : (l.take k).length = k := by rw [List.length_take]; omega
    refine ⟨by rw [Vm.cells_length], .inr ⟨g, c, cur, by rw [hl], hb, hg, by omega, hm, hs, ?_⟩⟩
    rw [hl, Vm.cells_take, ← ht, List.take_take]
    congr 1
    omega
theorem NamesOwn.zeros {B g c : Nat} {l : List Vm.Nm} : ∀ (zs : List Value) (w : World) (j : Nat), l.length * 2 ≤ j → NamesOwn w B (.slice (some ⟨g, 0, none⟩) l.length c) l → NamesOwn (w.setCells g j zs) B (.slice (some ⟨g, 0, none⟩) l.length c) l ∧ (B ≤ g → Below B w (w.setCells g j zs))
  | [], w, _, _, h => ⟨h, fun _ => Below.refl _ _⟩
  | z :: zs, w, j, hj, h => by
    have h1 : NamesOwn (w.setCell ⟨g, j, none⟩ z) B (.slice (some ⟨g, 0, none⟩) l.length c) l := by
      unfold NamesOwn at h ⊢
      have h2 := (World.ownsRow.stored h j z).1
      rw [List.set_eq_of_length_le (by rw [Vm.cells_length]; exact hj)] at h2
      exact h2
    obtain ⟨r1, r2⟩ := NamesOwn.zeros zs (w.setCell ⟨g, j, none⟩ z) (j + 1) (by omega) h1
    exact ⟨r1, fun hB => ((Below.refl B w).setCell (p := ⟨g, j, none⟩) hB z).trans (r2 hB)⟩

theorem run_clear_names (w : World) (ty : TypeId) (b o n c : Nat) (hn : 0 < n) (hc : ∀ j, j < n * 2 → (w.cell? ⟨b, o + j, none⟩).isSome = true) (hf : ∀ j, j < n * 2 → w.frozen? ⟨b, o + j, none⟩ = false) :
    (Builtin.clear_ #[23] ty #[.slice (some ⟨b, o, none⟩) n c]).run Try.prog w = .ok (.tuple #[]) (w.setCells b o (List.replicate (n * 2) (.int .i64 0))) := by
  have hzc : (Builtin.zeroCells #[Value.int .i64 0, Value.int .i64 0] n).toList = List.replicate (n * 2) (.int .i64 0) := by
    apply List.ext_getElem
    · simp [Builtin.zeroCells]
    · intro i h1 h2
      have : i % 2 = 0 ∨ i % 2 = 1 := by omega
      rcases this with h | h <;> simp [Builtin.zeroCells, h]
  have hst := run_storeCells_cells (P := Try.prog) b o (List.replicate (n * 2) (Value.int .i64 0)) 0 w (by simpa using hc) (by simpa using hf) (by intro v hv'; rw [List.eq_of_mem_replicate hv']; rfl)
  simp only [Nat.add_zero] at hst
  have hv : ∀ w, (zeroValue 59).run Try.prog w = .ok (.agg #[.int .i64 0, .int .i64 0]) w := Try.zeroValue59
  obtain ⟨m, rfl⟩ : ∃ m, n = m + 1 := ⟨n - 1, by omega⟩
  simp [Builtin.clear_, run_underlying Try.underlying23, hv, Value.cells, hzc, hst]

theorem Vm.compact_len (l : List Vm.Nm) : (compact l).length ≤ l.length := by
  unfold compact compactUpTo
  rw [List.length_map]
  have := List.length_filter_le (keeps l.toArray) (List.range l.length)
  rwa [List.length_range] at this

set_option maxRecDepth 100000 in
theorem compact_any (B : Nat) (A : Option Addr) (c : Nat) (l : List Vm.Nm) (w : World) (h : NamesOwn w B (.slice A l.length c) l) (hl : l.length ≤ 17592186044416) :
    Calls Try.prog 69 #[.slice A l.length c] w fun e w' => e = .returned (.slice A (compact l).length c) ∧ NamesOwn w' B (.slice A (compact l).length c) (compact l) ∧ Below B w w' := by
  obtain ⟨d, hd⟩ : ∃ d, l.toArray = d := ⟨_, rfl⟩
  obtain ⟨n, hn⟩ : ∃ n, l.length = n := ⟨_, rfl⟩
  have hdn : d.size = n := by rw [← hd, ← hn]; simp
  have hdl : d.toList = l := by rw [← hd]
  have hget : ∀ (j : Nat) (hj : j < l.length), d[j]! = l[j] := fun j hj => by rw [← hd]; simp [hj]
  have same : (∀ j, j < n → keeps d j = true) → compact l = l := fun hall => compact_all l (by rw [hd, hn]; exact hall)
  have HS := Lib.hid same
  have HD := Lib.hid hd
  have HDL := Lib.hid hdl
  have HGET := Lib.hid hget
  have HO := Lib.hid h
  clear same hd hdl hget
  rw [hn] at h hl ⊢
  by_cases h2 : n < 2
  · have e0 : decide ((n : Int) < 2) = true := by simp; omega
    have HE := Lib.hid (HS.out (fun j hj => keeps_lt_one d j (by omega)))
    go_enter Try.func69, Try.ntmps69
    go_wp2_with fail
    go_ret
    exact ⟨by rw [HE.out, hn]; rfl, by rw [HE.out]; exact HO.out, Below.refl _ _⟩
  have e0 : decide ((n : Int) < 2) = false := by simp; omega
  obtain ⟨g, rfl⟩ : ∃ g, A = some ⟨g, 0, none⟩ := by
    unfold NamesOwn at h
    rcases h.2 with ⟨e0, hz⟩ | ⟨g, cap, cur, e0, _⟩
    · omega
    · injection e0 with e1 _ _; exact ⟨g, e1⟩
  have hgB : B ≤ g := (World.ownsRow.lt h g rfl).1
  have hnc : n ≤ c := by unfold NamesOwn at h; rw [hn] at h; exact World.ownsRow.fits h
  have HOW := Lib.hid h
  clear h
  go_enter Try.func69, Try.ntmps69
  go_wp2_with fail
  go_loopw [3] (fun s3 wr => ∃ k q : Nat, 1 ≤ k ∧ k ≤ n ∧ s3 = .int .i64 k ∧ wr = w.drewN q ∧ ∀ j, j < k → keeps d j = true) (fun s3 _ => n - (intOf s3).toNat)
  case atStart => exact ⟨1, 0, Nat.le_refl _, by omega, rfl, rfl, keeps_lt_one d⟩
  case round =>
    obtain ⟨k, q, hk1, hk, rfl, rfl, hall⟩ := hrel
    have HALL := Lib.hid hall
    clear hall
    by_cases hlt : k < n
    · have d8 : decide ((k : Int) < (n : Int)) = true := by simp; omega
      obtain ⟨⟨c0, c1⟩, _⟩ := HOW.out.rd hn (j := k) (by omega)
      obtain ⟨⟨b0, b1⟩, _⟩ := HOW.out.rd hn (j := k - 1) (by omega)
      obtain ⟨x, hx⟩ : ∃ x, l[k] = x := ⟨_, rfl⟩
      obtain ⟨y, hy⟩ : ∃ y, l[k - 1] = y := ⟨_, rfl⟩
      rw [hx] at c0 c1
      rw [hy] at b0 b1
      have hX := Lib.hid (show d[k]! = x by rw [HGET.out k (by omega), hx])
      have hY := Lib.hid (show d[k - 1]! = y by rw [HGET.out (k - 1) (by omega), hy])
      clear hx hy
      obtain ⟨x0, x1⟩ := x
      obtain ⟨y0, y1⟩ := y
      simp only at c0 c1 b0 b1
      by_cases he : (x0, x1) = (y0, y1)
      · obtain ⟨rfl, rfl⟩ : x0 = y0 ∧ x1 = y1 := by injection he with h1 h2; exact ⟨h1, h2⟩
        clear he
        have HI0 := Lib.hid (CompInv.start HALL.out (keeps_neg (by omega) (by rw [hX.out, hY.out])))
        have hwq : ∀ p, NamesOwn (w.drewN p) B (.slice (some ⟨g, 0, none⟩) n c) d.toList ∧ Below B w (w.drewN p) := fun p => ⟨by rw [HDL.out]; exact NamesOwn.below HOW.out (Below.drewN' (Below.refl _ _) _), Below.drewN' (Below.refl _ _) _⟩
        have HWQ := Lib.hid hwq
        have i1 : (k : Int) ≤ (n : Int) := by omega
        clear hwq
        go_wp2_with fail
        go_quiet (fail)
        clear c0 c1 b0 b1
        go_wp2_with fail
        go_loopw [3, 5] (fun s3 s5 wr => ∃ (kk k2 : Nat) (dk : Array Vm.Nm), s3 = .int .i64 kk ∧ s5 = .int .i64 k2 ∧ 1 ≤ k2 ∧ k + k2 ≤ n ∧ NamesOwn wr B (.slice (some ⟨g, 0, none⟩) n c) dk.toList ∧ Below B w wr ∧ CompInv d (k + k2) kk dk) (fun s3 s5 _ => n - k - (intOf s5).toNat)
        case atStart => exact ⟨k, 1, d, rfl, rfl, Nat.le_refl _, by omega, (HWQ.out _).1, (HWQ.out _).2, HI0.out⟩
        case round =>
          obtain ⟨kk, k2, dk, rfl, rfl, h1, hle, hO, hB, hI⟩ := hrel
          have hkk := hI.lt
          have hds := hI.size
          have hdk : dk.toList.length = n := by simp; omega
          have HI := Lib.hid hI
          have HOr := Lib.hid hO
          have HBr := Lib.hid hB
          by_cases hlt2 : k + k2 < n
          · have d9 : decide ((k2 : Int) < ((n - k : Nat) : Int)) = true := by simp; omega
            obtain ⟨⟨m0, m1⟩, _⟩ := hO.rd hdk (j := k + k2) (by omega)
            obtain ⟨⟨p0, p1⟩, _⟩ := hO.rd hdk (j := k + (k2 - 1)) (by omega)
            obtain ⟨⟨r0, r1⟩, f0, f1⟩ := hO.rd hdk (j := kk) (by omega)
            have eu : dk.toList[k + k2]'(by omega) = d[k + k2]! := by rw [← hI.high (k + k2) (by omega), getElem!_pos dk (k + k2) (by omega)]; simp
            have ev : dk.toList[k + (k2 - 1)]'(by omega) = d[k + k2 - 1]! := by
              have := hI.high (k + k2 - 1) (by omega)
              rw [← this, getElem!_pos dk (k + k2 - 1) (by omega)]
              simp [show k + (k2 - 1) = k + k2 - 1 by omega]
            rw [eu] at m0 m1
            rw [ev] at p0 p1
            obtain ⟨u, hu⟩ : ∃ u, d[k + k2]! = u := ⟨_, rfl⟩
            obtain ⟨v, hv⟩ : ∃ u, d[k + k2 - 1]! = u := ⟨_, rfl⟩
            rw [hu] at m0 m1
            rw [hv] at p0 p1
            have HU := Lib.hid hu
            have HV := Lib.hid hv
            obtain ⟨o0, ho0⟩ : ∃ z, (dk.toList[kk]'(by omega)).1 = z := ⟨_, rfl⟩
            obtain ⟨o1, ho1⟩ : ∃ z, (dk.toList[kk]'(by omega)).2 = z := ⟨_, rfl⟩
            rw [ho0] at r0
            rw [ho1] at r1
            obtain ⟨u0, u1⟩ := u
            obtain ⟨v0, v1⟩ := v
            simp only at m0 m1 p0 p1
            rw [show (k + k2) * 2 = k * 2 + k2 * 2 by omega] at m0 m1
            rw [show (k + (k2 - 1)) * 2 = k * 2 + (k2 - 1) * 2 by omega] at p0 p1
            clear hu hv ho0 ho1 eu ev hO hB hI
            by_cases he : (u0, u1) = (v0, v1)
            · obtain ⟨rfl, rfl⟩ : u0 = v0 ∧ u1 = v1 := by injection he with h1 h2; exact ⟨h1, h2⟩
              have HI2 := Lib.hid (HI.out.skip (keeps_neg (by omega) (by rw [HU.out, HV.out])))
              clear he
              go_wp2_with fail
              go_quiet (fail)
              go_wp2_with fail
              go_roundw
              case rel => exact ⟨kk, k2 + 1, dk, rfl, by go_num, by omega, by omega, NamesOwn.below HOr.out (Below.drewN' (Below.refl _ _) _), Below.drewN' HBr.out _, HI2.out⟩
              case measure => simp [intOf]; omega
            · have q0 := name_ne he
              have HI2 := Lib.hid (show CompInv d (k + k2 + 1) (kk + 1) (dk.setIfInBounds kk (u0, u1)) by
                have h := HI.out.keep (by omega) (keeps_pos (by rw [HU.out, HV.out]; exact he))
                rw [HU.out] at h
                exact h)
              clear he
              go_wp2_with fail
              go_quiet (fail)
              go_wp2_with fail
              go_roundw
              case rel => exact ⟨kk + 1, k2 + 1, dk.setIfInBounds kk (u0, u1), by go_num, by go_num, by omega, by omega, by rw [Array.toList_setIfInBounds]; exact NamesOwn.put (NamesOwn.below HOr.out (Below.drewN' (Below.refl _ _) _)) hdk (u0, u1) kk, ((Below.drewN' HBr.out _).setCell (by show B ≤ g; exact hgB) _).setCell (by show B ≤ g; exact hgB) _, HI2.out⟩
              case measure => simp [intOf]; omega
          · have hend : k + k2 = n := by omega
            have d9 : decide ((k2 : Int) < ((n - k : Nat) : Int)) = false := by simp; omega
            have hcl : ∀ ty, (Builtin.clear_ #[23] ty #[.slice (some ⟨g, kk * 2, none⟩) (n - kk) (c - kk)]).run Try.prog wr = .ok (.tuple #[]) (wr.setCells g (kk * 2) (List.replicate ((n - kk) * 2) (.int .i64 0))) := fun ty => by
              refine run_clear_names wr ty g (kk * 2) (n - kk) (c - kk) (by omega) (fun j hj => ?_) (fun j hj => ?_)
              · have ho := hO
                unfold NamesOwn at ho
                rw [hdk] at ho
                obtain ⟨z, hz⟩ := World.ownsRow.cellSome ho (kk * 2 + j) (by omega)
                rw [hz]; rfl
              · unfold NamesOwn at hO
                rw [hdk] at hO
                exact World.ownsRow.frozenAt hO _
            have hC : compact l = dk.toList.take kk := by
              unfold compact
              rw [HD.out, hn]
              have hlow := hI.low
              have hlen := hI.len
              rw [hend] at hlow hlen
              apply List.ext_getElem?
              intro i
              by_cases hi : i < kk
              · rw [hlow i hi, List.getElem?_take, if_pos hi, getElem!_pos dk i (by omega)]
                simp [show i < dk.size by omega]
              · rw [List.getElem?_eq_none (by omega), List.getElem?_eq_none (by simp; omega)]
            have hCl : (compact l).length = kk := by rw [hC, List.length_take]; omega
            have hO2 : NamesOwn wr B (.slice (some ⟨g, 0, none⟩) kk c) (compact l) := by rw [hC]; exact NamesOwn.take hO hdk (by omega)
            have hO3 := NamesOwn.zeros (List.replicate ((n - kk) * 2) (Value.int .i64 0)) wr (kk * 2) (by rw [hCl]; exact Nat.le_refl _) (by rw [hCl]; exact hO2)
            rw [hCl] at hO3
            have HO3 := Lib.hid hO3
            have HCl := Lib.hid hCl
            have i2 : (kk : Int) ≤ (n : Int) := by omega
            have i3 : (kk : Int) ≤ (c : Int) := by omega
            have i4 : (n : Int) ≤ (c : Int) := by omega
            clear hC hCl hO hO2 hO3 hI hB
            go_wp2_with fail
            go_ret
            exact ⟨by rw [HCl.out]; rfl, by rw [HCl.out]; exact HO3.out.1, HBr.out.trans (HO3.out.2 hgB)⟩
      · have q0 := name_ne he
        have HK := Lib.hid (show ∀ j, j < k + 1 → keeps d j = true from fun j hj => by
          by_cases e : j = k
          · subst e; exact keeps_pos (by rw [hX.out, hY.out]; exact he)
          · exact HALL.out j (by omega))
        clear he
        go_wp2_with fail
        go_quiet (fail)
        go_wp2_with fail
        go_roundw
        case rel => exact ⟨k + 1, _, by omega, by omega, by go_num, rfl, HK.out⟩
        case measure => simp [intOf]; omega
    · obtain rfl : k = n := by omega
      have d8 : decide ((k : Int) < (k : Int)) = false := by simp
      have HE := Lib.hid (HS.out HALL.out)
      go_wp2_with fail
      go_ret
      exact ⟨by rw [HE.out, hn]; rfl, by rw [HE.out]; exact NamesOwn.below HO.out (Below.drewN' (Below.refl _ _) _), Below.drewN' (Below.refl _ _) _⟩

end Go.Proofs.Ytebkgndcgcdogaa

namespace Go.Proofs.Ytebkgndcgcdogaa
open Go.RowKit Go.Shelf Go.Lib Go.Sort
set_option maxHeartbeats 4000000

set_option maxRecDepth 100000 in
theorem cloneN_any (A : Option Addr) (n c : Nat) (l : List Vm.Nm) (w : World) (hl : NamesIn w A n c l) (hn : n ≤ 8796093022208) :
    Calls Try.prog 66 #[.slice A n c] w fun e w' => ∃ v, e = .returned v ∧ NamesOwn w' w.heap.size v l ∧ Below w.heap.size w w' := by
  have hln := hl.1
  obtain ⟨i0, hi, hz0, hz1, hz2⟩ := info_parts info_name
  by_cases h0 : n = 0
  · subst h0
    have hnil := List.eq_nil_of_length_eq_zero hln
    subst hnil
    cases A with
    | none =>
      have hcon := AnyE.slices_Clone_nil Try.cloneNm 0 c w
      exact hcon.mono fun e w' ⟨he, hw⟩ => ⟨_, he, by rw [hw]; exact NamesOwn.nil _ _, by rw [hw]; exact Below.refl _ _⟩
    | some a =>
      clear hl hi hz0 hz1 hz2
      have hq : ∀ W, (binOp .eql 23 (.slice (some a) 0 c) (.slice none 0 0)).run Try.prog W = .ok (.bool false) W := fun W => Lib.run_eql_slice_nil W _ _ (some a) 0 c 0 0 Try.underlying23
      go_enter Try.func66, Try.ntmps66
      go_wp2
      go_ret
      exact ⟨_, rfl, World.ownsRow_made w #[] 0 (Nat.le_refl _) (Nat.zero_le _) (by simp), (Below.refl _ _).alloc (Nat.le_refl _) _⟩
  · obtain ⟨g, o, rfl, hg, hc⟩ := hl.2.2 (by omega)
    have hcon := AnyE.slices_Clone Try.cloneNm i0 (.agg #[.int .i64 0, .int .i64 0]) 2 16 hi hz0 hz1 hz2 rfl (by decide) Try.sizeOf59 g o n c (Vm.cells l) w (by rw [Vm.cells_length, hln]) (by unfold maxLen; omega) (by omega) (fun j u hj => by
      have hjl : j < (Vm.cells l).length := by
        rcases Nat.lt_or_ge j (Vm.cells l).length with h | h
        · exact h
        · rw [List.getElem?_eq_none h] at hj; cases hj
      rw [Vm.cells_length] at hjl
      have hj2 : j / 2 < l.length := by omega
      have hcl := Vm.cells_get l (j / 2) hj2
      have hce := hc (j / 2) hj2
      rcases Nat.mod_two_eq_zero_or_one j with h | h
      · have e : j = j / 2 * 2 := by omega
        rw [e] at hj ⊢
        rw [← hj, hcl.1]; exact hce.1
      · have e : j = j / 2 * 2 + 1 := by omega
        rw [e] at hj ⊢
        rw [← hj, hcl.2]; exact hce.2) (Vm.cells_one l)
    refine hcon.mono fun e w' ⟨v, he, ho, _, hb⟩ => ⟨v, he, ?_, hb⟩
    unfold NamesOwn
    rw [hln]
    exact ho

theorem Vm.compact_sorted (l : List Vm.Nm) (hl : l.Pairwise (fun x y => ¬ Vm.lt y x)) : (compact l).Pairwise Vm.lt ∧ ∀ x, x ∈ compact l ↔ x ∈ l := by
  have hge : ∀ i j, i ≤ j → j < l.length → ¬ Vm.lt l.toArray[j]! l.toArray[i]! := fun i j hij hj => by
    have hi : i < l.length := by omega
    rw [getElem!_pos l.toArray j (by simpa using hj), getElem!_pos l.toArray i (by simpa using hi)]
    by_cases e : i = j
    · subst e; exact Vm.lt_irrefl _
    · simpa using List.pairwise_iff_getElem.1 hl i j hi hj (by omega)
  have key : ∀ m, m ≤ l.length → (compactUpTo l.toArray m).Pairwise Vm.lt ∧ ∀ x, x ∈ compactUpTo l.toArray m ↔ ∃ j, j < m ∧ l.toArray[j]! = x := by
    intro m
    induction m with
    | zero => intro _; exact ⟨by simp [compactUpTo], fun x => by simp [compactUpTo]⟩
    | succ m ih =>
      intro hm
      obtain ⟨h1, h2⟩ := ih (by omega)
      rw [compactUpTo_succ]
      by_cases hk : keeps l.toArray m = true
      · rw [if_pos hk]
        refine ⟨?_, fun x => ?_⟩
        · refine List.pairwise_append.2 ⟨h1, by simp, fun x hx y hy => ?_⟩
          obtain rfl := List.mem_singleton.1 hy
          obtain ⟨j, hj, rfl⟩ := (h2 x).1 hx
          rcases Vm.lt_tri l.toArray[j]! l.toArray[m]! with h | h | h
          · exact h
          · exfalso
            have hm0 : m ≠ 0 := by omega
            have hne : l.toArray[m]! ≠ l.toArray[m - 1]! := by
              unfold keeps at hk
              simp only [decide_eq_true_eq] at hk
              rcases hk with h | h
              · exact absurd h hm0
              · exact h
            have a1 := hge j (m - 1) (by omega) (by omega)
            have a2 := hge (m - 1) m (by omega) (by omega)
            rw [h] at a1
            rcases Vm.lt_tri l.toArray[m]! l.toArray[m - 1]! with h | h | h
            · exact a2 h
            · exact hne h
            · exact a1 h
          · exact absurd h (hge j m (by omega) (by omega))
        · rw [List.mem_append, h2, List.mem_singleton]
          constructor
          · rintro (⟨j, hj, e⟩ | rfl)
            · exact ⟨j, by omega, e⟩
            · exact ⟨m, by omega, rfl⟩
          · rintro ⟨j, hj, e⟩
            by_cases ej : j = m
            · subst ej; exact .inr e.symm
            · exact .inl ⟨j, by omega, e⟩
      · rw [if_neg hk, List.append_nil]
        refine ⟨h1, fun x => ?_⟩
        rw [h2]
        constructor
        · rintro ⟨j, hj, e⟩; exact ⟨j, by omega, e⟩
        · rintro ⟨j, hj, e⟩
          by_cases ej : j = m
          · subst ej
            unfold keeps at hk
            simp only [decide_eq_true_eq, not_or, Decidable.not_not] at hk
            exact ⟨j - 1, by omega, by rw [← hk.2]; exact e⟩
          · exact ⟨j, by omega, e⟩
  obtain ⟨h1, h2⟩ := key l.length (Nat.le_refl _)
  refine ⟨h1, fun x => (h2 x).trans ?_⟩
  constructor
  · rintro ⟨j, hj, rfl⟩
    rw [getElem!_pos l.toArray j (by simpa using hj)]
    simp
  · intro hx
    obtain ⟨j, hj, rfl⟩ := List.mem_iff_getElem.1 hx
    exact ⟨j, hj, by rw [getElem!_pos l.toArray j (by simpa using hj)]; simp⟩

theorem sorted_any (A : Option Addr) (n c : Nat) (l : List Vm.Nm) (w : World) (hl : NamesIn w A n c l) (hn : n ≤ 8796093022208) :
    Calls Try.prog 48 #[.slice A n c] w fun e w' => ∃ A' c' o, e = .returned (.slice A' o.length c') ∧ NamesOwn w' w.heap.size (.slice A' o.length c') o ∧ Below w.heap.size w w' ∧ o.Pairwise Vm.lt ∧ o.length ≤ n ∧ ∀ x, x ∈ o ↔ x ∈ l := by
  have hln := Lib.hid hl.1
  have C1 := Lib.hid (cloneN_any A n c l w hl hn)
  clear hl
  go_enter Try.func48, Try.ntmps48
  go_wp2_with fail
  refine C1.out.mono ?_
  rintro e w1 ⟨v, rfl, ho1, hb1⟩
  obtain ⟨A1, c1, rfl, _⟩ := own_names ho1
  have C2 := Lib.hid (sort_any w.heap.size A1 c1 l w1 ho1 (by rw [hln.out]; omega))
  have HB1 := Lib.hid hb1
  clear hb1 ho1
  go_wp2_with fail
  refine C2.out.mono ?_
  rintro e w2 ⟨rfl, hb2, l', hp, hs, ho2⟩
  have hpl := hp.length_eq
  have hnl : l'.length ≤ n := by rw [hpl, hln.out]; exact Nat.le_refl _
  rw [← hpl] at ho2 ⊢
  clear hpl
  have C3 := Lib.hid (compact_any w.heap.size A1 c1 l' w2 ho2 (by omega))
  have HB2 := Lib.hid (HB1.out.trans hb2)
  have HS := Lib.hid (Vm.compact_sorted l' hs)
  have HP := Lib.hid hp
  clear hb2 ho2 hs hp
  go_wp2_with fail
  refine C3.out.mono ?_
  rintro e w3 ⟨rfl, ho3, hb3⟩
  have HB3 := Lib.hid (HB2.out.trans hb3)
  have HO3 := Lib.hid ho3
  have hcl := Vm.compact_len l'
  clear hb3 ho3
  go_wp2_with fail
  go_ret
  exact ⟨A1, c1, compact l', rfl, HO3.out, HB3.out, HS.out.1, Nat.le_trans hcl hnl, fun x => (HS.out.2 x).trans (HP.out.mem_iff)⟩

end Go.Proofs.Ytebkgndcgcdogaa

namespace Go.Proofs.Ytebkgndcgcdogaa
open Go.RowKit Go.Shelf Go.Lib Go.Sort
set_option maxHeartbeats 2000000

theorem Vm.cf_neg (x y : Vm.Nm) : Vm.cf x y < 0 ↔ Vm.lt x y := by
  have h := Vm.cf_lt x y
  unfold ltOf at h
  exact decide_eq_decide.1 h
theorem Vm.cf_zero (x y : Vm.Nm) : Vm.cf x y = 0 ↔ x = y := by
  obtain ⟨a, b⟩ := x
  obtain ⟨c, d⟩ := y
  have h : (a, b) = (c, d) ↔ a = c ∧ b = d := Prod.ext_iff
  rw [h]
  unfold Vm.cf Lib.compareInt
  simp only
  by_cases h1 : a < c
  · simp [h1]; omega
  · by_cases h2 : c < a
    · simp [h1, h2]; omega
    · have h0 : a = c := by omega
      subst h0
      by_cases h3 : b < d
      · simp [h3]; omega
      · by_cases h4 : d < b
        · simp [h3, h4]; omega
        · simp [h3, h4]; omega

theorem cmpB_any (a b c d : Int) (W : World) : Calls Try.prog 68 #[.agg #[.int .i64 a, .int .i64 b], .agg #[.int .i64 c, .int .i64 d]] W fun e w' => e = .returned (.int .i64 (Vm.cf (a, b) (c, d))) ∧ Below W.heap.size W w' :=
  (compare_any (a, b) (c, d) W).mono fun e w' ⟨he, q, os, hw⟩ => ⟨he, by
    rw [hw]
    refine ⟨rfl, rfl, rfl, by simp [grow], fun k hk => ?_⟩
    simp only [grow]
    exact Array.getElem?_append_left hk⟩

set_option maxRecDepth 100000 in
theorem bsf_any (A : Option Addr) (n c : Nat) (o : List Vm.Nm) (x0 x1 : Int) (w : World) (hl : NamesIn w A n c o) (hn : n ≤ 17592186044416) (hs : o.Pairwise Vm.lt) :
    Calls Try.prog 70 #[.slice A n c, .agg #[.int .i64 x0, .int .i64 x1], .func (.func 68) #[] #[]] w fun e w' => ∃ i : Int, e = .returned (.tuple #[.int .i64 i, .bool (decide ((x0, x1) ∈ o))]) ∧ Below w.heap.size w w' := by
  have hln := hl.1
  have hmono : ∀ a b (ha : a < o.length) (hb : b < o.length), a ≤ b → Vm.lt o[b] (x0, x1) → Vm.lt o[a] (x0, x1) := fun a b ha hb hab h => by
    by_cases e : a = b
    · subst e; exact h
    · exact Vm.lt_trans (List.pairwise_iff_getElem.1 hs a b ha hb (by omega)) h
  have HM := Lib.hid hmono
  have HL := Lib.hid hl
  obtain ⟨B, hB⟩ : ∃ B, w.heap.size = B := ⟨_, rfl⟩
  obtain ⟨w1, hw1⟩ : ∃ V, w.alloc (.cells #[.int .i64 x0, .int .i64 x1] 59) = V := ⟨_, rfl⟩
  have hb1 : Below B w w1 := by rw [← hw1, ← hB]; exact (Below.refl _ _).alloc (Nat.le_refl _) _
  have hs1 : w1.heap.size = B + 1 := by rw [← hw1]; simp [hB]
  have ht : w1.heap[B]? = some (.cells #[.int .i64 x0, .int .i64 x1] 59 (0, 0)) := by rw [← hw1, ← hB]; exact heap_alloc_new _ _
  have HW1 := Lib.hid hw1
  have HB1 := Lib.hid hb1
  have HT := Lib.hid ht
  have HLN := Lib.hid hln
  have HBE := Lib.hid hB
  have HSO := Lib.hid (List.pairwise_iff_getElem.1 hs)
  clear hmono hl hw1 hb1 ht hln hs
  rw [hB]
  go_enter Try.func70, Try.ntmps70
  go_wp2_with fail
  rw [HW1.out]
  go_loopw [9, 10] (fun s9 s10 wr => ∃ lo hi : Nat, s9 = .int .i64 lo ∧ s10 = .int .i64 hi ∧ lo ≤ hi ∧ hi ≤ n ∧ Below (B + 1) w1 wr ∧ (∀ t (h : t < o.length), t < lo → Vm.lt o[t] (x0, x1)) ∧ (∀ t (h : t < o.length), hi ≤ t → ¬ Vm.lt o[t] (x0, x1))) (fun s9 s10 _ => (intOf s10).toNat - (intOf s9).toNat)
  case atStart => exact ⟨0, n, rfl, rfl, Nat.zero_le _, Nat.le_refl _, Below.refl _ _, fun t _ h => absurd h (by omega), fun t h1 h2 => absurd h2 (by rw [HLN.out] at h1; omega)⟩
  case round =>
    obtain ⟨lo, hi, rfl, rfl, hlh, hin, hBr, hlo, hhi⟩ := hrel
    have hsz := hBr.size
    have HBr := Lib.hid hBr
    have HLO := Lib.hid hlo
    have HHI := Lib.hid hhi
    have hbt : wr.heap[B]? = some (.cells #[.int .i64 x0, .int .i64 x1] 59 (0, 0)) := (hBr.block B (by omega)).trans HT.out
    have t0 : wr.cell? ⟨B, 0, none⟩ = some (.int .i64 x0) := by simp [World.cell?, hbt]
    have t1 : wr.cell? ⟨B, 1, none⟩ = some (.int .i64 x1) := by simp [World.cell?, hbt]
    have hBB : B < wr.heap.size := by omega
    clear hBr hlo hhi hbt
    by_cases hlt : lo < hi
    · have d8 : decide ((lo : Int) < (hi : Int)) = true := by simp; omega
      have hmn : (lo + hi) / 2 < n := by omega
      obtain ⟨g, q, rfl, hg, hz, y0, y1⟩ := HL.out.at hmn
      rw [HBE.out] at hg
      have z0 := ((HB1.out.trans (HBr.out.mono (by omega))).cell (p := ⟨g, q + (lo + hi) / 2 * 2, none⟩) hg).trans y0
      have z1 := ((HB1.out.trans (HBr.out.mono (by omega))).cell (p := ⟨g, q + (lo + hi) / 2 * 2 + 1, none⟩) hg).trans y1
      have hgl : g < wr.heap.size := by omega
      obtain ⟨y, hy⟩ : ∃ y, o[(lo + hi) / 2] = y := ⟨_, rfl⟩
      rw [hy] at z0 z1
      obtain ⟨ya, yb⟩ := y
      simp only at z0 z1
      have j1 : (0 : Int) ≤ ((lo : Int) + (hi : Int)) / 2 := by omega
      have j2 : ((lo : Int) + (hi : Int)) / 2 < (n : Int) := by omega
      have fc : ∀ y : Ext wr.heap.size wr, (y.1.cell? ⟨B, 0, none⟩ = some (.int .i64 x0) ∧ y.1.cell? ⟨B, 1, none⟩ = some (.int .i64 x1)) ∧ y.1.cell? ⟨g, q + (lo + hi) / 2 * 2, none⟩ = some (.int .i64 ya) ∧ y.1.cell? ⟨g, q + (lo + hi) / 2 * 2 + 1, none⟩ = some (.int .i64 yb) := fun y => ⟨⟨(y.2.cell (p := ⟨B, 0, none⟩) hBB).trans t0, (y.2.cell (p := ⟨B, 1, none⟩) hBB).trans t1⟩, (y.2.cell (p := ⟨g, q + (lo + hi) / 2 * 2, none⟩) hgl).trans z0, (y.2.cell (p := ⟨g, q + (lo + hi) / 2 * 2 + 1, none⟩) hgl).trans z1⟩
      have g0 := fun y => (fc y).1.1
      have g1 := fun y => (fc y).1.2
      have g2 := fun y => (fc y).2.1
      have g3 := fun y => (fc y).2.2
      obtain ⟨K, hK⟩ : ∃ K, Vm.cf (ya, yb) (x0, x1) = K := ⟨_, rfl⟩
      have hneg := Vm.cf_neg (ya, yb) (x0, x1)
      have hC := fun V => cmpB_any ya yb x0 x1 V
      rw [hK] at hC hneg
      have HC := Lib.hid hC
      clear fc hC hK y0 y1 z0 z1 t0 t1
      by_cases hk : K < 0
      · have e0 : decide (K < 0) = true := by simpa using hk
        have HN := Lib.hid (show ∀ t (h : t < o.length), t < (lo + hi) / 2 + 1 → Vm.lt o[t] (x0, x1) from fun t h ht => HM.out t ((lo + hi) / 2) h hz (by omega) (by rw [hy]; exact hneg.1 hk))
        clear hy hneg hz hg
        go_wp2_with fail
        refine wp_region_below wr.heap.size (by kernel_rfl) (by kernel_rfl) ?_
        repeat (go_big_quiet_step ((go_at_call 68; exact Calls.ext_of _ (Nat.le_refl _) (HC.out _))))
        refine wpQuiet_nil ?_
        intro w5 hB5
        have HB5 := Lib.hid (HBr.out.trans (hB5.mono (by omega)))
        clear g0 g1 g2 g3 hB5
        go_wp2_with fail
        go_roundw
        case rel => exact ⟨(lo + hi) / 2 + 1, hi, by rw [show ((lo : Int) + (hi : Int)) / 2 + 1 = (((lo + hi) / 2 + 1 : Nat) : Int) by omega], rfl, by omega, hin, HB5.out, HN.out, HHI.out⟩
        case measure => simp [intOf]; omega
      · have e0 : decide (K < 0) = false := by simpa using hk
        have HN := Lib.hid (show ∀ t (h : t < o.length), (lo + hi) / 2 ≤ t → ¬ Vm.lt o[t] (x0, x1) from fun t h ht hl => hk (hneg.2 (by have := HM.out ((lo + hi) / 2) t hz h ht hl; rw [hy] at this; exact this)))
        clear hy hneg hz hg
        go_wp2_with fail
        refine wp_region_below wr.heap.size (by kernel_rfl) (by kernel_rfl) ?_
        repeat (go_big_quiet_step ((go_at_call 68; exact Calls.ext_of _ (Nat.le_refl _) (HC.out _))))
        refine wpQuiet_nil ?_
        intro w5 hB5
        have HB5 := Lib.hid (HBr.out.trans (hB5.mono (by omega)))
        clear g0 g1 g2 g3 hB5
        go_wp2_with fail
        go_roundw
        case rel => exact ⟨lo, (lo + hi) / 2, rfl, by rw [show ((lo : Int) + (hi : Int)) / 2 = (((lo + hi) / 2 : Nat) : Int) by omega], by omega, by omega, HB5.out, HLO.out, HN.out⟩
        case measure => simp [intOf]; omega
    · obtain rfl : hi = lo := by omega
      have d8 : decide ((hi : Int) < (hi : Int)) = false := by simp
      by_cases hn2 : hi < n
      · have d9 : decide ((hi : Int) < (n : Int)) = true := by simp; omega
        obtain ⟨g, q, rfl, hg, hz, y0, y1⟩ := HL.out.at hn2
        rw [HBE.out] at hg
        have z0 := ((HB1.out.trans (HBr.out.mono (by omega))).cell (p := ⟨g, q + hi * 2, none⟩) hg).trans y0
        have z1 := ((HB1.out.trans (HBr.out.mono (by omega))).cell (p := ⟨g, q + hi * 2 + 1, none⟩) hg).trans y1
        have hgl : g < wr.heap.size := by omega
        obtain ⟨y, hy⟩ : ∃ y, o[hi] = y := ⟨_, rfl⟩
        rw [hy] at z0 z1
        obtain ⟨ya, yb⟩ := y
        simp only at z0 z1
        have j1 : (0 : Int) ≤ (hi : Int) := by omega
        have j2 : (hi : Int) < (n : Int) := by omega
        have fc : ∀ y : Ext wr.heap.size wr, (y.1.cell? ⟨B, 0, none⟩ = some (.int .i64 x0) ∧ y.1.cell? ⟨B, 1, none⟩ = some (.int .i64 x1)) ∧ y.1.cell? ⟨g, q + hi * 2, none⟩ = some (.int .i64 ya) ∧ y.1.cell? ⟨g, q + hi * 2 + 1, none⟩ = some (.int .i64 yb) := fun y => ⟨⟨(y.2.cell (p := ⟨B, 0, none⟩) hBB).trans t0, (y.2.cell (p := ⟨B, 1, none⟩) hBB).trans t1⟩, (y.2.cell (p := ⟨g, q + hi * 2, none⟩) hgl).trans z0, (y.2.cell (p := ⟨g, q + hi * 2 + 1, none⟩) hgl).trans z1⟩
        have g0 := fun y => (fc y).1.1
        have g1 := fun y => (fc y).1.2
        have g2 := fun y => (fc y).2.1
        have g3 := fun y => (fc y).2.2
        obtain ⟨K, hK⟩ : ∃ K, Vm.cf (ya, yb) (x0, x1) = K := ⟨_, rfl⟩
        have hzero := Vm.cf_zero (ya, yb) (x0, x1)
        have hC := fun V => cmpB_any ya yb x0 x1 V
        rw [hK] at hC hzero
        have HC := Lib.hid hC
        have HF := Lib.hid (show decide ((x0, x1) ∈ o) = (K == 0) from by
          by_cases hk : K = 0
          · have e := hzero.1 hk
            rw [hk, ← e, ← hy]
            simp
          · rw [beq_eq_false_iff_ne.2 hk, decide_eq_false_iff_not]
            intro hm
            obtain ⟨j, hj, ej⟩ := List.mem_iff_getElem.1 hm
            rcases Nat.lt_trichotomy j hi with h | h | h
            · have := HLO.out j hj h; rw [ej] at this; exact Vm.lt_irrefl _ this
            · subst h; exact hk (hzero.2 (by rw [← hy, ej]))
            · have := HSO.out hi j hz hj h; rw [ej] at this; exact HHI.out hi hz (Nat.le_refl _) this)
        clear fc hC hK y0 y1 z0 z1 t0 t1 hzero hy hz hg
        go_wp2_with fail
        refine wp_region_below wr.heap.size (by kernel_rfl) (by kernel_rfl) ?_
        repeat (go_big_quiet_step ((go_at_call 68; exact Calls.ext_of _ (Nat.le_refl _) (HC.out _))))
        refine wpQuiet_nil ?_
        intro w5 hB5
        have HB5 := Lib.hid (HB1.out.trans ((HBr.out.trans (hB5.mono (by omega))).mono (by omega)))
        clear g0 g1 g2 g3 hB5
        go_wp2_with fail
        go_ret2
        exact ⟨hi, by rw [HF.out]; rfl, HB5.out⟩
      · have d9 : decide ((hi : Int) < (n : Int)) = false := by simp; omega
        have HF := Lib.hid (show decide ((x0, x1) ∈ o) = false from by
          rw [decide_eq_false_iff_not]
          intro hm
          obtain ⟨j, hj, ej⟩ := List.mem_iff_getElem.1 hm
          have := HLO.out j hj (by rw [HLN.out] at hj; omega)
          rw [ej] at this
          exact Vm.lt_irrefl _ this)
        clear t0 t1
        go_wp2_with fail
        refine wp_region_below wr.heap.size (by kernel_rfl) (by kernel_rfl) ?_
        repeat (go_big_quiet_step (fail))
        refine wpQuiet_nil ?_
        intro w5 hB5
        have HB5 := Lib.hid (HB1.out.trans ((HBr.out.trans (hB5.mono (by omega))).mono (by omega)))
        clear hB5
        go_wp2_with fail
        go_ret2
        exact ⟨hi, by rw [HF.out]; rfl, HB5.out⟩

def Vm.less (o p : List Vm.Nm) : List Vm.Nm := o.filter (fun x => decide (x ∉ p))
theorem Vm.less_in (o p : List Vm.Nm) {k : Nat} (hk : k < o.length) (h : o[k] ∈ p) : Vm.less (o.take (k + 1)) p = Vm.less (o.take k) p := by
  unfold Vm.less
  rw [List.take_succ_eq_append_getElem hk, List.filter_append, List.filter_cons, if_neg (by simpa using h), List.filter_nil, List.append_nil]
theorem Vm.less_out (o p : List Vm.Nm) {k : Nat} (hk : k < o.length) (h : o[k] ∉ p) : Vm.less (o.take (k + 1)) p = Vm.less (o.take k) p ++ [o[k]] := by
  unfold Vm.less
  rw [List.take_succ_eq_append_getElem hk, List.filter_append, List.filter_cons, if_pos (by simpa using h), List.filter_nil]
theorem Vm.less_len (o p : List Vm.Nm) (k : Nat) : (Vm.less (o.take k) p).length ≤ k := by
  unfold Vm.less
  exact Nat.le_trans (List.length_filter_le _ _) (by rw [List.length_take]; omega)

set_option maxRecDepth 100000 in
theorem mwithout_any (A A' : Option Addr) (n n' c c' : Nat) (o p : List Vm.Nm) (w : World) (ho : NamesIn w A n c o) (hp : NamesIn w A' n' c' p) (hn : n ≤ 256) (hn' : n' ≤ 256) (hs : p.Pairwise Vm.lt) :
    Calls Try.prog 49 #[.slice A n c, .slice A' n' c'] w fun e w' => ∃ v, e = .returned v ∧ NamesOwn w' w.heap.size v (Vm.less o p) ∧ Below w.heap.size w w' := by
  obtain ⟨i0, hi, hz0, hz1, hz2⟩ := info_parts info_name
  obtain ⟨B, hB⟩ : ∃ B, w.heap.size = B := ⟨_, rfl⟩
  have HO := Lib.hid ho
  have HP := Lib.hid hp
  have HBE := Lib.hid hB
  have HLN := Lib.hid ho.1
  have HSO := Lib.hid hs
  clear ho hp hs
  rw [hB]
  clear hB
  go_enter Try.func49, Try.ntmps49
  go_wp2_with fail
  go_loopw [5, 12] (fun u i wr => ∃ (k : Nat) (P : List Vm.Nm), k ≤ n ∧ i = .int .i64 k ∧ P = Vm.less (o.take k) p ∧ NamesOwn wr B u P ∧ Below B w wr ∧ B ≤ wr.heap.size) (fun u i _ => n - (intOf i).toNat)
  case atStart => exact ⟨0, [], by omega, rfl, rfl, NamesOwn.nil _ _, Below.refl _ _, by rw [HBE.out]; exact Nat.le_refl _⟩
  case round =>
    obtain ⟨k, P, hk, rfl, hPe, hO, hBr, hbr⟩ := hrel
    have HOr := Lib.hid hO
    have HBr := Lib.hid hBr
    have HPE := Lib.hid hPe
    have HRL := Lib.hid (fun b' (hb' : u5.ownBlock = some b') => World.ownsRow.lt hO b' hb')
    have hpl : P.length ≤ k := by rw [hPe]; exact Vm.less_len _ _ _
    clear hO hBr hPe
    by_cases hlt : k < n
    · have d8 : decide ((k : Int) < (n : Int)) = true := by simp; omega
      obtain ⟨g, q, rfl, hg, hz, y0, y1⟩ := HO.out.at hlt
      rw [HBE.out] at hg
      have z0 := (HBr.out.cell (p := ⟨g, q + k * 2, none⟩) hg).trans y0
      have z1 := (HBr.out.cell (p := ⟨g, q + k * 2 + 1, none⟩) hg).trans y1
      obtain ⟨x, hx⟩ : ∃ x, o[k] = x := ⟨_, rfl⟩
      rw [hx] at z0 z1
      obtain ⟨xa, xb⟩ := x
      simp only at z0 z1
      obtain ⟨nb, hnb⟩ : ∃ nb, wr.heap.size = nb := ⟨_, rfl⟩
      have hba : Below B w (wr.alloc (.cells #[.int .i64 xa, .int .i64 xb] 59)) := HBr.out.alloc hbr _
      have hpa := HP.out.below (hba.mono (by rw [HBE.out]; exact Nat.le_refl _))
      have HBS := Lib.hid (bsf_any A' n' c' p xa xb _ hpa (by omega) HSO.out)
      have HBA := Lib.hid hba
      have HOA := Lib.hid (HOr.out.alloc (.cells #[.int .i64 xa, .int .i64 xb] 59))
      have hk0 : (wr.alloc (.cells #[.int .i64 xa, .int .i64 xb] 59)).heap[nb]? = some (.cells #[.int .i64 xa, .int .i64 xb] 59 (0, 0)) := by rw [← hnb]; exact heap_alloc_new _ _
      have HK0 := Lib.hid hk0
      have hsa : (wr.alloc (.cells #[.int .i64 xa, .int .i64 xb] 59)).heap.size = nb + 1 := by simp [hnb]
      have HSA := Lib.hid hsa
      clear y0 y1 hg hba hpa hk0 hsa
      by_cases hin : (xa, xb) ∈ p
      · have HPX := Lib.hid (show P = Vm.less (o.take (k + 1)) p by rw [Vm.less_in o p hz (by rw [hx]; exact hin)]; exact HPE.out)
        rw [decide_eq_true hin] at HBS
        clear hin hx hz
        go_wp2_with (first | (go_at_call 70; refine HBS.out.mono ?_; rintro e w5 ⟨ix, rfl, hb5⟩) | fail)
        have HB5 := Lib.hid (HBA.out.trans (hb5.mono (by rw [HSA.out]; omega)))
        have HO5 := Lib.hid (HOA.out.below hb5)
        have hb5s : B ≤ w5.heap.size := by have := hb5.size; rw [HSA.out] at this; omega
        clear hb5
        go_wp2_with fail
        go_roundw
        case rel => exact ⟨k + 1, P, by omega, by go_num, HPX.out, HO5.out, HB5.out, hb5s⟩
        case measure => simp [intOf]; omega
      · have HPX := Lib.hid (show P ++ [(xa, xb)] = Vm.less (o.take (k + 1)) p by rw [Vm.less_out o p hz (by rw [hx]; exact hin), hx, ← HPE.out])
        rw [decide_eq_false hin] at HBS
        clear hin hx hz
        have hPl : (P ++ [(xa, xb)]).length = P.length + 1 := by simp
        go_wp2_with (first | (go_at_call 70; refine HBS.out.mono ?_; rintro e w5 ⟨ix, rfl, hb5⟩; have HB5 := Lib.hid (HBA.out.trans (hb5.mono (by rw [HSA.out]; omega))); have HO5 := Lib.hid (HOA.out.below hb5); have hb5s : nb + 1 ≤ w5.heap.size := (by have := hb5.size; rw [HSA.out] at this; exact this); have hk5 : w5.heap[nb]? = some (.cells #[.int .i64 xa, .int .i64 xb] 59 (0, 0)) := (hb5.block nb (by rw [HSA.out]; omega)).trans HK0.out; have v0 : w5.cell? ⟨nb, 0, none⟩ = some (.int .i64 xa) := (by simp [World.cell?, hk5]); have v1 : w5.cell? ⟨nb, 1, none⟩ = some (.int .i64 xb) := (by simp [World.cell?, hk5]); clear hb5 hk5) | (at_builtin; refine wpList_append_own _ rfl _ _ 23 rfl B 59 i0 (.agg #[.int .i64 0, .int .i64 0]) 2 16 Try.underlying23 hi hz0 hz1 hz2 rfl (by decide) _ _ _ rfl (World.ownsRow.alloc HO5.out _) ⟨w5.heap.size, 0, none⟩ 1 1 [.int .i64 xa, .int .i64 xb] rfl rfl (cell_two_new _ _ _ _) (by simp [Value.oneCell']) (by unfold maxLen; omega) (by omega) (by simp; omega) ?_; intro v' w6 hown' hgrow _; have HO6 := Lib.hid hown'; have HG := Lib.hid hgrow; clear hown' hgrow) | fail)
        have HB6 := Lib.hid (show Below B w w6 from (HB5.out.alloc (by omega) _).grown HG.out (by simp; omega) (fun q hq => (HRL.out q hq).1))
        have hs6 : B ≤ w6.heap.size := by have := HG.out.size; simp at this; omega
        go_roundw
        case rel => exact ⟨k + 1, P ++ [(xa, xb)], by omega, by go_num, HPX.out, by unfold NamesOwn; rw [Vm.cells_snoc, hPl]; exact HO6.out, HB6.out, hs6⟩
        case measure => simp [intOf]; omega
    · obtain rfl : k = n := by omega
      have d8 : decide ((k : Int) < (k : Int)) = false := by simp
      have HE := Lib.hid (show P = Vm.less o p by rw [HPE.out, List.take_of_length_le (by rw [HLN.out]; exact Nat.le_refl _)])
      go_wp2_with fail
      go_ret
      exact ⟨_, rfl, by rw [← HE.out]; exact HOr.out, HBr.out⟩

end Go.Proofs.Ytebkgndcgcdogaa

namespace Go.Proofs.Ytebkgndcgcdogaa
open Go.RowKit
set_option maxHeartbeats 2000000

theorem orE_any (g : Nat) (r s : Int) (W : World) (h0 : W.cell? ⟨g, 0, none⟩ = some (.int .i64 r)) (h1 : W.cell? ⟨g, 1, none⟩ = some (.int .i64 s)) :
    Calls Try.prog 47 #[.slice (some ⟨g, 0, none⟩) 2 2] W fun e w' => e = .returned (.int .i64 (if r = 0 then s else r)) ∧ w' = W := by
  have hx : (if r = 0 then s else r) = (if r = 0 then s else r) := rfl
  by_cases hr : r = 0
  · subst hr
    by_cases hs : s = 0
    · subst hs
      go_enter Try.func47, Try.ntmps47
      go_wp2
      refine wp_loop_rounds 3 ?_
      rw [rounds_succ]
      go_wp2
      rw [rounds_succ]
      go_wp2
      rw [rounds_succ]
      go_wp2
      go_ret
      exact ⟨rfl, rfl⟩
    · have n1 : (s != 0) = true := by simpa using hs
      rw [if_pos rfl]
      clear hx hs
      go_enter Try.func47, Try.ntmps47
      go_wp2
      refine wp_loop_rounds 3 ?_
      rw [rounds_succ]
      go_wp2
      rw [rounds_succ]
      go_wp2
      go_ret
      exact ⟨rfl, rfl⟩
  · have n0 : (r != 0) = true := by simpa using hr
    rw [if_neg hr]
    clear hx hr
    go_enter Try.func47, Try.ntmps47
    go_wp2
    refine wp_loop_rounds 3 ?_
    rw [rounds_succ]
    go_wp2
    go_ret
    exact ⟨rfl, rfl⟩

theorem Vm.less_wo {a b oa ob : List Vm.Nm} (hs : oa.Pairwise Vm.lt) (ha : ∀ x, x ∈ oa ↔ x ∈ a) (hb : ∀ x, x ∈ ob ↔ x ∈ b) : Vm.less oa ob = Vm.wo a b := by
  refine Vm.IsWo.wo ⟨hs.filter _, fun x => ?_⟩
  unfold Vm.less
  rw [List.mem_filter, ha x]
  simp [hb x]

set_option maxRecDepth 100000 in
theorem mchg_any (na nb : Int) (A A' : Option Addr) (n n' c c' : Nat) (a b : List Vm.Nm) (w : World) (ha : NamesIn w A n c a) (hb : NamesIn w A' n' c' b) (hn : n ≤ 17592186044416) (hn' : n' ≤ 17592186044416) :
    Calls Try.prog 23 #[.agg #[.int .i64 na, .slice A n c], .agg #[.int .i64 nb, .slice A' n' c']] w (Vm.RetC w.heap.size w (Vm.chg na a nb b)) := by
  have hC1 := fun V h => mchk_any na A n c a V h hn
  have hC2 := fun V h => mchk_any nb A' n' c' b V h hn'
  have hO := fun g U h0 h1 => orE_any g (Vm.chk na a) (Vm.chk nb b) U h0 h1
  obtain ⟨B, hB⟩ : ∃ B, w.heap.size = B := ⟨_, rfl⟩
  obtain ⟨w1, hw1⟩ : ∃ V, (w.alloc (.cells #[.int .i64 na, .slice A n c] 25)).alloc (.cells #[.int .i64 nb, .slice A' n' c'] 25) = V := ⟨_, rfl⟩
  have hb1 : Below B w w1 := by rw [← hw1, ← hB]; exact ((Below.refl _ _).alloc (Nat.le_refl _) _).alloc (by simp) _
  have hs1 : w1.heap.size = B + 2 := by rw [← hw1]; simp [hB]
  have va : VB B na (.slice A n c) w1 := by
    rw [← hw1, ← hB]
    exact (Below.heap_alloc _ _ _ (by simp)).trans (heap_alloc_new _ _)
  have vb : VB (B + 1) nb (.slice A' n' c') w1 := by
    rw [← hw1, ← hB]
    have := heap_alloc_new (w.alloc (.cells #[.int .i64 na, .slice A n c] 25)) (.cells #[.int .i64 nb, .slice A' n' c'] 25)
    rw [World.size_alloc] at this
    exact this
  have ha1 : NamesIn w1.drew A n c a := ha.below (hb1.drew.mono (by omega))
  have hx1 : NamesIn w1.drew A' n' c' b := hb.below (hb1.drew.mono (by omega))
  have hva1 : VB B na (.slice A n c) w1.drew := va
  have hvb1 : VB (B + 1) nb (.slice A' n' c') w1.drew := vb
  have HW1 := Lib.hid hw1
  have HB1 := Lib.hid hb1
  have HBB := Lib.hid hB
  have hla := ha.1
  have hlb := hb.1
  have p0 := hva1.c0
  have p1 := hva1.c1
  have p2 := hvb1.c0
  have p3 := hvb1.c1
  have hsd : B + 1 < w1.drew.heap.size := by show B + 1 < w1.heap.size; omega
  clear ha hb hw1 va vb hb1
  obtain ⟨X, hX⟩ : ∃ X, Vm.chk na a = X := ⟨_, rfl⟩
  obtain ⟨Y, hY⟩ : ∃ Y, Vm.chk nb b = Y := ⟨_, rfl⟩
  rw [hX] at hC1 hO
  rw [hY] at hC2 hO
  have HX := Lib.hid hX
  have HY := Lib.hid hY
  obtain ⟨Z, hZ⟩ : ∃ Z, (if X = 0 then Y else X) = Z := ⟨_, rfl⟩
  rw [hZ] at hO
  have HZ := Lib.hid hZ
  have C1 := Lib.hid hC1
  have C2 := Lib.hid hC2
  have O1 := Lib.hid hO
  clear hX hY hZ hC1 hC2 hO
  by_cases h0 : Z = 0
  · obtain ⟨h1, h2⟩ : X = 0 ∧ Y = 0 := by
      have := HZ.out
      by_cases hx : X = 0
      · rw [if_pos hx] at this; exact ⟨hx, by omega⟩
      · rw [if_neg hx] at this; exact absurd (by omega) hx
    have h1' : Vm.chk na a = 0 := by rw [HX.out, h1]
    have h2' : Vm.chk nb b = 0 := by rw [HY.out, h2]
    have HF := Lib.hid (show Vm.chg na a nb b = (Vm.wo b a, Vm.wo a b, 0) by unfold Vm.chg; rw [if_pos h1', if_pos h2'])
    have hla2 : n ≤ 256 := by rw [← hla]; exact (Vm.chk_zero h1').2.2.1
    have hlb2 : n' ≤ 256 := by rw [← hlb]; exact (Vm.chk_zero h2').2.2.1
    have SA := Lib.hid (fun V h => sorted_any A n c a V h (by omega))
    have SB := Lib.hid (fun V h => sorted_any A' n' c' b V h (by omega))
    clear h1 h2 h1' h2' hla hlb
    subst h0
    go_enter Try.func23, Try.ntmps23
    go_wp2_with fail
    rw [HW1.out]
    go_region_held3 (fun V => V.cell? ⟨B, 0, none⟩ = some (.int .i64 na) ∧ V.cell? ⟨B, 1, none⟩ = some (.slice A n c) ∧ V.cell? ⟨B + 1, 0, none⟩ = some (.int .i64 nb) ∧ V.cell? ⟨B + 1, 1, none⟩ = some (.slice A' n' c')) (first | exact ⟨by assumption, by assumption, by assumption, by assumption⟩) ((first | (go_at_call 25; (with_reducible refine (C1.out _ ha1).mono ?_); rintro e w2 ⟨rfl, hb2⟩; have ha2 := NamesIn.below ha1 hb2; have hx2 := NamesIn.below hx1 hb2; have hva2 := VB.below hva1 hb2 (Nat.lt_of_succ_lt hsd); have hvb2 := VB.below hvb1 hb2 hsd; have r0 := hva2.c0; have r1 := hva2.c1; have r2 := hvb2.c0; have r3 := hvb2.c1; have hsd2 := Nat.lt_of_lt_of_le hsd hb2.size) | (go_at_call 25; (with_reducible refine (C2.out _ hx2).mono ?_); rintro e w3 ⟨rfl, hb3⟩; have ha3 := NamesIn.below ha2 hb3; have hx3 := NamesIn.below hx2 hb3; have hva3 := VB.below hva2 hb3 (Nat.lt_of_succ_lt hsd2); have hvb3 := VB.below hvb2 hb3 hsd2; have s0 := hva3.c0; have s1 := hva3.c1; have s2 := hvb3.c0; have s3 := hvb3.c1; have hsd3 := Nat.lt_of_lt_of_le hsd2 hb3.size; have hva4 := VB.below hva3 ((Below.refl _ _).alloc (Nat.le_refl _) (.cells #[.int .i64 X, .int .i64 Y] 34)) (Nat.lt_of_succ_lt hsd3); have hvb4 := VB.below hvb3 ((Below.refl _ _).alloc (Nat.le_refl _) (.cells #[.int .i64 X, .int .i64 Y] 34)) hsd3; have u0 := hva4.c0; have u1 := hva4.c1; have u2 := hvb4.c0; have u3 := hvb4.c1) | (go_at_call 47; (refine (O1.out _ _ (cell_new_at _ _ _ _ rfl 0) (cell_new_at _ _ _ _ rfl 1)).mono ?_); rintro e w5 ⟨rfl, hw5⟩; subst hw5) | fail))
    have hbv : Below B w (w3.alloc (.cells #[.int .i64 X, .int .i64 Y] 34)) := ((HB1.out.drew.trans (hb2.mono (Nat.le_of_lt (Nat.lt_of_succ_lt hsd)))).trans (hb3.mono (Nat.le_of_lt (Nat.lt_of_succ_lt hsd2)))).alloc (Nat.le_of_lt (Nat.lt_of_succ_lt hsd3)) _
    have hav := NamesIn.below ha3 ((Below.refl _ _).alloc (Nat.le_refl _) (.cells #[.int .i64 X, .int .i64 Y] 34))
    have hxv := NamesIn.below hx3 ((Below.refl _ _).alloc (Nat.le_refl _) (.cells #[.int .i64 X, .int .i64 Y] 34))
    have hsv : B + 1 < (w3.alloc (.cells #[.int .i64 X, .int .i64 Y] 34)).heap.size := by simp; omega
    obtain ⟨g3, hg3⟩ : ∃ g, w3.heap.size = g := ⟨_, rfl⟩
    rw [hg3]
    obtain ⟨wv, hwv⟩ : ∃ V, w3.alloc (.cells #[.int .i64 X, .int .i64 Y] 34) = V := ⟨_, rfl⟩
    rw [hwv] at hbv hav hxv hsv hva4 hvb4 ⊢
    clear hwv ha1 ha2 ha3 hx1 hx2 hx3 hva1 hvb1 hva2 hvb2 hva3 hvb3 p0 p1 p2 p3 r0 r1 r2 r3 s0 s1 s2 s3 u0 u1 u2 u3 hb2 hb3 hsd hsd2 hsd3 hg3
    have hav' : NamesIn wv.drew A n c a := hav
    have hxv' : NamesIn wv.drew A' n' c' b := hxv
    have hva5 : VB B na (.slice A n c) wv.drew := hva4
    have hvb5 : VB (B + 1) nb (.slice A' n' c') wv.drew := hvb4
    have hsd : B + 1 < wv.drew.heap.size := hsv
    have p1 := hva5.c1
    have p3 := hvb5.c1
    have HBV := Lib.hid hbv
    clear hbv hav hxv hva4 hvb4
    go_wp2_with fail
    go_region_held3 (fun V => V.cell? ⟨B, 1, none⟩ = some (.slice A n c) ∧ V.cell? ⟨B + 1, 1, none⟩ = some (.slice A' n' c')) (first | exact ⟨by assumption, by assumption⟩) ((first | (go_at_call 48; (with_reducible refine (SA.out _ hav').mono ?_); rintro e w4 ⟨A4, c4, o4, rfl, ho4, hb4, hq4, hl4, hm4⟩; have hx4 := NamesIn.below hxv' hb4; have hva6 := VB.below hva5 hb4 (Nat.lt_of_succ_lt hsd); have hvb6 := VB.below hvb5 hb4 hsd; have r1 := hva6.c1; have r3 := hvb6.c1; have hsd4 := Nat.lt_of_lt_of_le hsd hb4.size) | (go_at_call 48; (with_reducible refine (SB.out _ hx4).mono ?_); rintro e w5 ⟨A5, c5, o5, rfl, ho5, hb5, hq5, hl5, hm5⟩; have s1 := (VB.below hva6 hb5 (Nat.lt_of_succ_lt hsd4)).c1; have s3 := (VB.below hvb6 hb5 hsd4).c1) | fail))
    have hvs : B ≤ wv.heap.size := Nat.le_of_lt (Nat.lt_of_succ_lt hsv)
    have h4s : B ≤ w4.heap.size := Nat.le_of_lt (Nat.lt_of_succ_lt hsd4)
    have hb45 : Below B w w5 := (HBV.out.drew.trans (hb4.mono hvs)).trans (hb5.mono h4s)
    have n4 : NamesIn w5 A4 o4.length c4 o4 := by
      obtain ⟨A', c', e, h⟩ := own_names (NamesOwn.below ho4 hb5)
      injection e with e1 _ e3
      rw [e1, e3]; exact h
    have n5 : NamesIn w5 A5 o5.length c5 o5 := by
      obtain ⟨A', c', e, h⟩ := own_names ho5
      injection e with e1 _ e3
      rw [e1, e3]; exact h
    have h5s : B ≤ w5.heap.size := Nat.le_trans h4s hb5.size
    have W1 := Lib.hid (mwithout_any A5 A4 o5.length o4.length c5 c4 o5 o4 w5 n5 n4 (by omega) (by omega) hq4)
    have W2 := Lib.hid (fun V h h' => mwithout_any A4 A5 o4.length o5.length c4 c5 o4 o5 V h h' (by omega) (by omega) hq5)
    have E1 := Lib.hid (Vm.less_wo hq5 hm5 hm4)
    have E2 := Lib.hid (Vm.less_wo hq4 hm4 hm5)
    have HB45 := Lib.hid hb45
    have N4 := Lib.hid n4
    have N5 := Lib.hid n5
    clear ho4 ho5 hb4 hb5 hq4 hq5 hm4 hm5 hb45 n4 n5 hx4 hva5 hvb5 hva6 hvb6 p1 p3 r1 r3 s1 s3 hav' hxv'
    go_wp2_with fail
    refine W1.out.mono ?_
    rintro e w6 ⟨v1, rfl, ho6, hb6⟩
    have W2' := Lib.hid (W2.out w6 (N4.out.below hb6) (N5.out.below hb6))
    have HO6 := Lib.hid ho6
    have HB6 := Lib.hid (HB45.out.trans (hb6.mono h5s))
    have h6s : B ≤ w6.heap.size := Nat.le_trans h5s hb6.size
    clear ho6 hb6
    go_wp2_with fail
    refine W2'.out.mono ?_
    rintro e w7 ⟨v2, rfl, ho7, hb7⟩
    have HO7 := Lib.hid ho7
    have HO8 := Lib.hid (HO6.out.below hb7)
    have HB7 := Lib.hid (HB6.out.trans (hb7.mono h6s))
    clear ho7 hb7
    go_wp2_with fail
    go_ret3
    exact ⟨v1, v2, by rw [HF.out]; rfl, by rw [HF.out, ← E1.out]; exact HO8.out.mono (by rw [HBB.out]; exact h5s), by rw [HF.out, ← E2.out]; exact HO7.out.mono (by rw [HBB.out]; exact h6s), by rw [HBB.out]; exact HB7.out⟩
  · have g0 : (Z == 0) = false := beq_eq_false_iff_ne.2 h0
    have g1 : (Z != 0) = true := by simpa using h0
    have HF := Lib.hid (show Vm.chg na a nb b = ([], [], Z) by
      unfold Vm.chg
      have hz := HZ.out
      by_cases hx : X = 0
      · rw [if_pos hx] at hz
        rw [if_pos (by rw [HX.out, hx]), if_neg (by rw [HY.out, hz]; exact h0), HY.out, hz]
      · rw [if_neg hx] at hz
        rw [if_neg (by rw [HX.out]; exact hx), HX.out, hz])
    clear h0 hla hlb
    go_enter Try.func23, Try.ntmps23
    go_wp2_with fail
    rw [HW1.out]
    go_region_held3 (fun V => V.cell? ⟨B, 0, none⟩ = some (.int .i64 na) ∧ V.cell? ⟨B, 1, none⟩ = some (.slice A n c) ∧ V.cell? ⟨B + 1, 0, none⟩ = some (.int .i64 nb) ∧ V.cell? ⟨B + 1, 1, none⟩ = some (.slice A' n' c')) (first | exact ⟨by assumption, by assumption, by assumption, by assumption⟩) ((first | (go_at_call 25; (with_reducible refine (C1.out _ ha1).mono ?_); rintro e w2 ⟨rfl, hb2⟩; have ha2 := NamesIn.below ha1 hb2; have hx2 := NamesIn.below hx1 hb2; have hva2 := VB.below hva1 hb2 (Nat.lt_of_succ_lt hsd); have hvb2 := VB.below hvb1 hb2 hsd; have r0 := hva2.c0; have r1 := hva2.c1; have r2 := hvb2.c0; have r3 := hvb2.c1; have hsd2 := Nat.lt_of_lt_of_le hsd hb2.size) | (go_at_call 25; (with_reducible refine (C2.out _ hx2).mono ?_); rintro e w3 ⟨rfl, hb3⟩; have ha3 := NamesIn.below ha2 hb3; have hx3 := NamesIn.below hx2 hb3; have hva3 := VB.below hva2 hb3 (Nat.lt_of_succ_lt hsd2); have hvb3 := VB.below hvb2 hb3 hsd2; have s0 := hva3.c0; have s1 := hva3.c1; have s2 := hvb3.c0; have s3 := hvb3.c1; have hsd3 := Nat.lt_of_lt_of_le hsd2 hb3.size; have hva4 := VB.below hva3 ((Below.refl _ _).alloc (Nat.le_refl _) (.cells #[.int .i64 X, .int .i64 Y] 34)) (Nat.lt_of_succ_lt hsd3); have hvb4 := VB.below hvb3 ((Below.refl _ _).alloc (Nat.le_refl _) (.cells #[.int .i64 X, .int .i64 Y] 34)) hsd3; have u0 := hva4.c0; have u1 := hva4.c1; have u2 := hvb4.c0; have u3 := hvb4.c1) | (go_at_call 47; (refine (O1.out _ _ (cell_new_at _ _ _ _ rfl 0) (cell_new_at _ _ _ _ rfl 1)).mono ?_); rintro e w5 ⟨rfl, hw5⟩; subst hw5) | fail))
    have hbv : Below B w (w3.alloc (.cells #[.int .i64 X, .int .i64 Y] 34)) := ((HB1.out.drew.trans (hb2.mono (Nat.le_of_lt (Nat.lt_of_succ_lt hsd)))).trans (hb3.mono (Nat.le_of_lt (Nat.lt_of_succ_lt hsd2)))).alloc (Nat.le_of_lt (Nat.lt_of_succ_lt hsd3)) _
    have hav := NamesIn.below ha3 ((Below.refl _ _).alloc (Nat.le_refl _) (.cells #[.int .i64 X, .int .i64 Y] 34))
    have hxv := NamesIn.below hx3 ((Below.refl _ _).alloc (Nat.le_refl _) (.cells #[.int .i64 X, .int .i64 Y] 34))
    have hsv : B + 1 < (w3.alloc (.cells #[.int .i64 X, .int .i64 Y] 34)).heap.size := by simp; omega
    obtain ⟨g3, hg3⟩ : ∃ g, w3.heap.size = g := ⟨_, rfl⟩
    rw [hg3]
    obtain ⟨wv, hwv⟩ : ∃ V, w3.alloc (.cells #[.int .i64 X, .int .i64 Y] 34) = V := ⟨_, rfl⟩
    rw [hwv] at hbv hav hxv hsv hva4 hvb4 ⊢
    clear hwv ha1 ha2 ha3 hx1 hx2 hx3 hva1 hvb1 hva2 hvb2 hva3 hvb3 p0 p1 p2 p3 r0 r1 r2 r3 s0 s1 s2 s3 u0 u1 u2 u3 hb2 hb3 hsd hsd2 hsd3 hg3
    have HBV := Lib.hid hbv
    clear hbv hav hxv hva4 hvb4
    go_wp2_with fail
    go_ret3
    exact ⟨_, _, by rw [HF.out]; rfl, by rw [HF.out]; exact NamesOwn.nil _ _, by rw [HF.out]; exact NamesOwn.nil _ _, by rw [HBB.out]; exact HBV.out⟩

end Go.Proofs.Ytebkgndcgcdogaa
