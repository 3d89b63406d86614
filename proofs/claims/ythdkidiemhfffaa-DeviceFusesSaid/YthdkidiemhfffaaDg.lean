/-
  'copy(l[j+1:], l[j:])' on a row of one's own whose elements have one cell. Contracts of the reference of device: without, with.
-/
import Derived.Test.YthdkidiemhfffaaDf
import Derived.Laws.CopyRow
import Derived.Laws.IdiomCopy
import Derived.Laws.OwnMore
import Derived.Deep.RegionLaw
namespace Go.Proofs.Ythdkidiemhfffaa
open Go.RowKit
set_option maxHeartbeats 2000000

/-- a row with room made at place j -/
def Dv.shifted (xs : List Value) (z0 : Value) (j : Nat) : List Value := (xs ++ [z0]).take (j + 1) ++ xs.drop j
theorem Dv.shifted_length {xs : List Value} {m j : Nat} (z0 : Value) (hx : xs.length = m) (hj : j ≤ m) : (Dv.shifted xs z0 j).length = (m + 1) := by
  unfold Dv.shifted; simp [hx]; omega
theorem Dv.shifted_set {xs : List Value} {m j : Nat} (z0 u : Value) (hx : xs.length = m) (hj : j ≤ m) : (Dv.shifted xs z0 j).set j u = xs.take j ++ u :: xs.drop j := by
  have h1 : (xs ++ [z0]).take (j + 1) = xs.take j ++ ((xs ++ [z0]).drop j).take 1 := by
    rw [List.take_add, List.take_append_of_le_length (by omega)]
  have h2 : (((xs ++ [z0]).drop j).take 1).length = 1 := by simp [hx]; omega
  have hl : (xs.take j).length = j := by simp [hx]; omega
  unfold Dv.shifted
  rw [h1]
  generalize ((xs ++ [z0]).drop j).take 1 = q at h2 ⊢
  match q, h2 with
  | [q0], _ =>
    generalize xs.take j = p at hl ⊢
    generalize xs.drop j = r
    rw [List.append_assoc, List.set_append_right _ _ (by omega), hl]
    simp

theorem Dv.run_copy_none {P : Program} (w : World) {T e : TypeId} {i : TypeInfo} (hu : P.underlying T = some (.slice e)) (hi : P.info? e = some i) (ty : TypeId) (dp : Option Addr) (dl dc : Nat) (ad : Addr) (sl sc : Nat) (hm : Nat.min sl dl = 0) :
    (Builtin.copy_ #[T, T] ty #[.slice dp dl dc, .slice (some ad) sl sc]).run P w = .ok (goInt 0) w := by
  have hload : (loadCells ad 0).run P w = .ok #[] w := by
    have := run_loadCells_list (P := P) w ad [] (fun j v h => by simp at h)
    simpa using this
  cases dp with
  | none =>
    simp only [Builtin.copy_, List.getElem?_toArray, List.getElem?_cons_zero, List.getElem?_cons_succ, Sem.run_bind, run_underlying hu, Builtin.lenOf, Builtin.firstCells, sizeOf, typeInfo, Result.andThen_ok]
    simp [hi, hm, hload]
  | some a =>
    simp only [Builtin.copy_, List.getElem?_toArray, List.getElem?_cons_zero, List.getElem?_cons_succ, Sem.run_bind, run_underlying hu, Builtin.lenOf, Builtin.firstCells, sizeOf, typeInfo, Result.andThen_ok]
    simp [hi, hm, hload, storeCells]

theorem Dv.own_shift {P : Program} {w : World} {base : Nat} {e T ty : TypeId} {i : TypeInfo} (hu : P.underlying T = some (.slice e)) (hi : P.info? e = some i) (hsz : i.size = 1)
    {g m cap j : Nat} {xs : List Value} {z0 : Value} (hx : xs.length = m) (hown : w.ownsRow base e 1 (.slice (some ⟨g, 0, none⟩) (m + 1) cap) (m + 1) (xs ++ [z0])) (h1 : ∀ u ∈ xs, u.oneCell' = true) (hj : j ≤ m)
    (dp : Option Addr) (dc sc : Nat) (hdp : j < m → dp = some ⟨g, (j + 1), none⟩) :
    ∃ w', (Builtin.copy_ #[T, T] ty #[.slice dp (m - j) dc, .slice (some ⟨g, j, none⟩) (m + 1 - j) sc]).run P w = .ok (goInt ((m - j : Nat) : Int)) w' ∧
      w'.ownsRow base e 1 (.slice (some ⟨g, 0, none⟩) (m + 1) cap) (m + 1) (Dv.shifted xs z0 j) ∧ Below g w w' ∧ ∀ b, b ≠ g → w'.heap[b]? = w.heap[b]? := by
  rcases hown.2 with ⟨h', _⟩ | ⟨g', cap', cur, h', hB, hg, hnc, hcm, hcs, htake⟩
  · simp at h'
  simp only [Value.slice.injEq, Option.some.injEq, Addr.mk.injEq, and_true, true_and] at h'
  obtain ⟨rfl, rfl⟩ := h'
  have hgl := lt_of_block hg
  have hcl : (xs.drop (j)).length = (m - j) := by rw [List.length_drop, hx]
  have hmin : Nat.min (m + 1 - j) (m - j) = m - j := Nat.min_eq_right (by omega)
  have hmin2 : Nat.min (m + 1 - j) (m - j) * i.size = (xs.drop (j)).length := by rw [hmin, hsz, hcl, Nat.mul_one]
  have hsrc : ∀ q v, (xs.drop (j))[q]? = some v → w.cell? ((⟨g, j, none⟩ : Addr).add q) = some v := by
    intro q v hq
    have e1 : (⟨g, j, none⟩ : Addr).add q = ⟨g, j + q, none⟩ := by unfold Addr.add; split <;> simp_all
    rw [List.getElem?_drop] at hq
    have hlt : j + q < xs.length := by
      rcases Nat.lt_or_ge (j + q) xs.length with h | h
      · exact h
      · rw [List.getElem?_eq_none h] at hq; cases hq
    rw [e1, World.ownsRow.cellAt hown _ (by omega), List.getElem?_append_left hlt]
    exact hq
  have hload := run_loadCells_list (P := P) w ⟨g, j, none⟩ (xs.drop (j)) hsrc
  have ho : ∀ u ∈ xs.drop (j), u.oneCell' = true := fun u hu => h1 u (List.mem_of_mem_drop hu)
  by_cases h0 : j < m
  · obtain rfl := hdp h0
    have hst := run_storeCells_at P g ((j + 1)) e (xs.drop (j)) 0 cur w hg (by rw [hcl, hcs]; omega) ho
    have hrun : (Builtin.copy_ #[T, T] ty #[.slice (some ⟨g, (j + 1), none⟩) (m - j) dc, .slice (some ⟨g, j, none⟩) (m + 1 - j) sc]).run P w = .ok (goInt ((m - j : Nat) : Int)) (w.setRow g (cur.toList.take ((j + 1) + 0) ++ xs.drop (j) ++ cur.toList.drop ((j + 1) + 0 + (xs.drop (j)).length)).toArray) := by
      clear hown htake hsrc
      generalize xs.drop (j) = cs at hcl hmin2 hload ho hst ⊢
      simp only [Builtin.copy_, List.getElem?_toArray, List.getElem?_cons_zero, List.getElem?_cons_succ, Sem.run_bind, run_underlying hu, Builtin.lenOf, Builtin.firstCells, sizeOf, typeInfo, Result.andThen_ok]
      rw [hmin] at hmin2
      have hp : ∀ W : World, Sem.run P program W = .ok P W := fun W => rfl
      simp only [Sem.run_pure, Result.andThen_ok, hp, hi, hmin]
      simp only [hmin2, hload, Result.andThen_ok, hst]
    refine ⟨w.setRow g (cur.toList.take ((j + 1) + 0) ++ xs.drop (j) ++ cur.toList.drop ((j + 1) + 0 + (xs.drop (j)).length)).toArray, ?_, ?_, ?_, ?_⟩
    · exact hrun
    · refine ⟨by rw [Nat.mul_one]; exact Dv.shifted_length z0 hx hj, .inr ⟨g, cap, _, rfl, hB, setRow_heap _ _ _ _ _ _ hg, hnc, hcm, ?_, ?_⟩⟩
      · simp [hcl, hcs]; omega
      · have e2 : (cur.toList.take ((j + 1) + 0)) = (xs ++ [z0]).take ((j + 1)) := by
          rw [← htake, List.take_take]; congr 1; omega
        rw [e2]
        unfold Dv.shifted
        rw [List.take_append_of_le_length (by simp [hx]; omega), List.take_of_length_le (by simp [hx]; omega)]
    · exact ⟨rfl, rfl, rfl, by simp [World.setRow], fun k hk => setRow_other w g k _ (by omega)⟩
    · exact fun k hk => setRow_other w g k _ hk
  · obtain rfl : j = m := by omega
    have hn : xs.drop (j) = [] := List.drop_of_length_le (by omega)
    have hmin3 : Nat.min (j + 1 - j) (j - j) = 0 := by simp
    refine ⟨w, ?_, ?_, Below.refl _ _, fun _ _ => rfl⟩
    · have := Dv.run_copy_none (P := P) w hu hi ty dp (j - j) dc ⟨g, j, none⟩ (j + 1 - j) sc hmin3
      rw [this]; simp
    · unfold Dv.shifted
      rw [hn, List.append_nil, List.take_of_length_le (by simp [hx])]
      exact hown

theorem Dv.cellSome {w : World} {base : Nat} {e : TypeId} {size g n cap : Nat} {xs : List Value} (h : w.ownsRow base e size (.slice (some ⟨g, 0, none⟩) n cap) n xs) (j : Nat) (hj : j < n * size) : ∃ u, w.cell? ⟨g, j, none⟩ = some u := by
  have h1 := World.ownsRow.cellAt h j hj
  have h2 : j < xs.length := by rw [h.1]; exact hj
  exact ⟨xs[j], by rw [h1, List.getElem?_eq_getElem h2]⟩

/-- a copy whose run is known, as a step of a region that draws -/
theorem Dv.step_copy_known {P : Program} {ops : Array Oper} {o : Oper} {a : Act} {w : World} {K : Act → World → Prop} {Q : Exit → Act → World → Prop} {E : Prop} (hgd : o.guard = none) (d s : Operand) (T : TypeId)
    (ho : o.op = .call { callee := .builtin .copy, args := #[d, s], argTypes := #[T, T] }) (u v r : Value) (w' : World) (hd : a.eval d = u) (hs : a.eval s = v) (hrun : (Builtin.copy_ #[T, T] o.type #[u, v]).run P w = .ok r w')
    (hK : K (a.put o.dst r) w') : if Region.wanted o (yielded ops a.tmps) = true then Oper.wp P o a w K Q else E := by
  have hw : Region.wanted o (yielded ops a.tmps) = true := by simp [Region.wanted, hgd]
  rw [if_pos hw]
  unfold Oper.wp
  simp [execOp, ho, resolve, invoke, builtin, hd, hs, hrun, Result.andThen]
  exact hK


theorem Dv.del_snoc {l : List Int} {k : Nat} (hk : k < l.length) (m : Int) : Dv.del (l.take (k + 1)) m = Dv.del (l.take k) m ++ (if l[k] = m then [] else [l[k]]) := by
  rw [List.take_succ_eq_append_getElem hk]
  unfold Dv.del
  rw [List.filter_append]
  by_cases h : l[k] = m
  · simp [h]
  · simp [h]

set_option maxRecDepth 100000 in
theorem rdelD_any (A : Option Addr) (n c : Nat) (l : List Int) (m : Int) (w : World) (hl : SlIn w A n c (Dv.ints l)) (hn : n ≤ 1024) :
    Calls Try.prog 34 #[.slice A n c, .int .i64 m] w fun e w' => ∃ v, e = .returned v ∧ w'.ownsRow w.heap.size 3 1 v (Dv.del l m).length (Dv.ints (Dv.del l m)) ∧ Below w.heap.size w w' := by
  obtain ⟨i0, hi, hz0, hz1, hz2⟩ := info_parts info_int'
  have hll : l.length = n := by rw [← hl.1.1, List.length_map]
  have H := Lib.hid hl.1
  have HLL := Lib.hid hll
  clear hl hll
  go_enter Try.func34, Try.ntmps34
  go_wp2
  go_loopw [5, 10] (fun v i wr => ∃ k : Nat, k ≤ n ∧ i = .int .i64 k ∧ wr.ownsRow w.heap.size 3 1 v (Dv.del (l.take k) m).length (Dv.ints (Dv.del (l.take k) m)) ∧ Below w.heap.size w wr) (fun _ i _ => n - (intOf i).toNat)
  case atStart => exact ⟨0, by omega, rfl, World.ownsRow_nil _ _ _ _, ⟨rfl, rfl, rfl, Nat.le_refl _, fun _ _ => rfl⟩⟩
  case round =>
    obtain ⟨k, hk, rfl, hrow, hBr⟩ := hrel
    have hsz := hBr.size
    by_cases hlt : k < n
    · obtain ⟨b, o, rfl, hbl, hz, g0⟩ := H.out.at hlt
      have hkl : k < l.length := by rw [HLL.out]; exact hlt
      have g1 := (hBr.cell (p := ⟨b, o + k, none⟩) hbl).trans g0
      rw [List.getElem_map] at g1
      obtain ⟨x, hx⟩ : ∃ x, l[k] = x := ⟨_, rfl⟩
      rw [hx] at g1
      have i0' : (0 : Int) ≤ (k : Int) := by omega
      have i1' : (k : Int) < (n : Int) := by omega
      have HX := Lib.hid (show ∃ h : k < l.length, l[k] = x from ⟨hkl, hx⟩)
      have HSN := Lib.hid (Dv.del_snoc hkl m)
      have HBR := Lib.hid hBr
      clear hx hz g0 hBr
      by_cases he : x = m
      · have d0 : (x == m) = true := by simpa using he
        have d1 : (x != m) = false := by simpa using he
        rw [show Dv.del (l.take k) m = Dv.del (l.take (k + 1)) m from by rw [HSN.out, if_pos (by rw [HX.out.2]; exact he), List.append_nil]] at hrow
        have HR := Lib.hid hrow
        clear he hrow
        go_wp2_with fail
        go_roundw
        case rel => exact ⟨k + 1, by omega, by go_num, HR.out, HBR.out⟩
        case measure => simp [intOf]; omega
      · have d0 : (x == m) = false := by simpa using he
        have d1 : (x != m) = true := by simpa using he
        have HNE := Lib.hid he
        obtain ⟨L, hL⟩ : ∃ L, (Dv.del (l.take k) m).length = L := ⟨_, rfl⟩
        have hL2 : L ≤ k := by
          rw [← hL]; unfold Dv.del
          have := List.length_filter_le (fun x => decide (x ≠ m)) (l.take k)
          simp at this ⊢; omega
        rw [hL] at hrow
        have HL := Lib.hid hL
        clear he hL
        go_wp2_with (at_builtin; refine wpList_append_own _ rfl _ _ 22 rfl w.heap.size 3 i0 (.int .i64 0) 1 8 Try.underlying22 hi hz0 hz1 hz2 rfl (by decide) _ _ _ rfl (hrow.alloc _) ⟨wr.heap.size, 0, none⟩ 1 1 [.int .i64 x] rfl rfl (cell_one_new _ _ _) (by simp [Value.oneCell']) (by unfold maxLen; omega) (by omega) (by simp; omega) ?_; intro v' w3 hown' hgrow _; have HO := Lib.hid hown'; have HG := Lib.hid hgrow; clear hown' hgrow)
        have HB3 := Lib.hid (grown_below HG.out HBR.out hsz (fun b hb => (hrow.lt b hb).1))
        clear hrow
        go_roundw
        case rel =>
          refine ⟨k + 1, by omega, by go_num, ?_, HB3.out⟩
          rw [HSN.out, if_neg (by rw [HX.out.2]; exact HNE.out), List.length_append, HL.out, Dv.ints, List.map_append, HX.out.2]
          exact HO.out
        case measure => simp [intOf]; omega
    · obtain rfl : k = n := by omega
      rw [List.take_of_length_le (by rw [HLL.out]; exact Nat.le_refl _)] at hrow
      have HR := Lib.hid hrow
      have HBR := Lib.hid hBr
      clear hrow hBr
      go_wp2
      go_ret
      exact ⟨_, rfl, HR.out, HBR.out⟩

end Go.Proofs.Ythdkidiemhfffaa
