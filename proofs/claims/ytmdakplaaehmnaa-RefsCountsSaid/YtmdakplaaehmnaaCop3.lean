/-
  'copy(out[j+1:], out[j:])' on a row of one's own whose elements have three cells, as a step of a region that draws. No program is named here.
-/
import Derived.Test.YtmdakplaaehmnaaRw
import Derived.Laws.CopyRow
import Derived.Laws.IdiomCopy
import Derived.Laws.OwnMore
namespace Go.Proofs.Ytmdakplaaehmnaa
open Go.RowKit

/-- a row with room made at place j -/
def shifted3 (xs : List Value) (z0 z1 z2 : Value) (j : Nat) : List Value := (xs ++ [z0, z1, z2]).take ((j + 1) * 3) ++ xs.drop (j * 3)
theorem shifted3_length {xs : List Value} {m j : Nat} (z0 z1 z2 : Value) (hx : xs.length = m * 3) (hj : j ≤ m) : (shifted3 xs z0 z1 z2 j).length = (m + 1) * 3 := by
  unfold shifted3; simp [hx]; omega
theorem shifted3_set {xs : List Value} {m j : Nat} (z0 z1 z2 u v x : Value) (hx : xs.length = m * 3) (hj : j ≤ m) : (((shifted3 xs z0 z1 z2 j).set (j * 3) u).set (j * 3 + 1) v).set (j * 3 + 2) x = xs.take (j * 3) ++ [u, v, x] ++ xs.drop (j * 3) := by
  have h1 : (xs ++ [z0, z1, z2]).take ((j + 1) * 3) = xs.take (j * 3) ++ ((xs ++ [z0, z1, z2]).drop (j * 3)).take 3 := by
    rw [show (j + 1) * 3 = j * 3 + 3 by omega, List.take_add, List.take_append_of_le_length (by omega)]
  have h2 : (((xs ++ [z0, z1, z2]).drop (j * 3)).take 3).length = 3 := by simp [hx]; omega
  have hl : (xs.take (j * 3)).length = j * 3 := by simp [hx]; omega
  unfold shifted3
  rw [h1]
  generalize ((xs ++ [z0, z1, z2]).drop (j * 3)).take 3 = q at h2 ⊢
  match q, h2 with
  | [q0, q1, q2], _ =>
    generalize xs.take (j * 3) = p at hl ⊢
    generalize xs.drop (j * 3) = r
    rw [List.append_assoc, List.set_append_right _ _ (by omega), List.set_append_right _ _ (by omega), List.set_append_right _ _ (by omega), hl]
    simp

theorem run_copy_none3 {P : Program} (w : World) {T e : TypeId} {i : TypeInfo} (hu : P.underlying T = some (.slice e)) (hi : P.info? e = some i) (ty : TypeId) (dp : Option Addr) (dl dc : Nat) (ad : Addr) (sl sc : Nat) (hm : Nat.min sl dl = 0) :
    (Builtin.copy_ #[T, T] ty #[.slice dp dl dc, .slice (some ad) sl sc]).run P w = .ok (goInt 0) w := by
  have hload : (loadCells ad 0).run P w = .ok #[] w := by
    have := run_loadCells_list (P := P) w ad [] (fun j v h => by simp at h)
    simpa using this
  cases dp with
  | none =>
    simp only [Builtin.copy_, List.getElem?_toArray, List.getElem?_cons_zero, List.getElem?_cons_succ, Sem.run_bind, run_underlying hu, Builtin.lenOf, Builtin.firstCells, sizeOf, typeInfo, Result.andThen_ok]
    simp [hi, hm, hload]
  | some a =>
    simp only [Builtin.copy_, List.getElem?_toArray, List.getElem?_cons_zero, List.getElem?_cons_succ, Sem.run_bind, run_underlying hu, Builtin.lenOf, Builtin.firstCells, sizeOf, typeInfo, Result.andThen_ok]
    simp [hi, hm, hload, storeCells]

theorem own_shift3 {P : Program} {w : World} {base : Nat} {e T ty : TypeId} {i : TypeInfo} (hu : P.underlying T = some (.slice e)) (hi : P.info? e = some i) (hsz : i.size = 3)
    {g m cap j : Nat} {xs : List Value} {z0 z1 z2 : Value} (hx : xs.length = m * 3) (hown : w.ownsRow base e 3 (.slice (some ⟨g, 0, none⟩) (m + 1) cap) (m + 1) (xs ++ [z0, z1, z2])) (h1 : ∀ u ∈ xs, u.oneCell' = true) (hj : j ≤ m)
    (dp : Option Addr) (dc sc : Nat) (hdp : j < m → dp = some ⟨g, (j + 1) * 3, none⟩) :
    ∃ w', (Builtin.copy_ #[T, T] ty #[.slice dp (m - j) dc, .slice (some ⟨g, j * 3, none⟩) (m + 1 - j) sc]).run P w = .ok (goInt ((m - j : Nat) : Int)) w' ∧
      w'.ownsRow base e 3 (.slice (some ⟨g, 0, none⟩) (m + 1) cap) (m + 1) (shifted3 xs z0 z1 z2 j) ∧ Below g w w' ∧ ∀ b, b ≠ g → w'.heap[b]? = w.heap[b]? := by
  rcases hown.2 with ⟨h', _⟩ | ⟨g', cap', cur, h', hB, hg, hnc, hcm, hcs, htake⟩
  · simp at h'
  simp only [Value.slice.injEq, Option.some.injEq, Addr.mk.injEq, and_true, true_and] at h'
  obtain ⟨rfl, rfl⟩ := h'
  have hgl := lt_of_block hg
  have hcl : (xs.drop (j * 3)).length = (m - j) * 3 := by rw [List.length_drop, hx]; omega
  have hmin : Nat.min (m + 1 - j) (m - j) = m - j := Nat.min_eq_right (by omega)
  have hmin2 : Nat.min (m + 1 - j) (m - j) * i.size = (xs.drop (j * 3)).length := by rw [hmin, hsz, hcl]
  have hsrc : ∀ q v, (xs.drop (j * 3))[q]? = some v → w.cell? ((⟨g, j * 3, none⟩ : Addr).add q) = some v := by
    intro q v hq
    have e1 : (⟨g, j * 3, none⟩ : Addr).add q = ⟨g, j * 3 + q, none⟩ := by unfold Addr.add; split <;> simp_all
    rw [List.getElem?_drop] at hq
    have hlt : j * 3 + q < xs.length := by
      rcases Nat.lt_or_ge (j * 3 + q) xs.length with h | h
      · exact h
      · rw [List.getElem?_eq_none h] at hq; cases hq
    rw [e1, World.ownsRow.cellAt hown _ (by omega), List.getElem?_append_left hlt]
    exact hq
  have hload := run_loadCells_list (P := P) w ⟨g, j * 3, none⟩ (xs.drop (j * 3)) hsrc
  have ho : ∀ u ∈ xs.drop (j * 3), u.oneCell' = true := fun u hu => h1 u (List.mem_of_mem_drop hu)
  by_cases h0 : j < m
  · obtain rfl := hdp h0
    have hst := run_storeCells_at P g ((j + 1) * 3) e (xs.drop (j * 3)) 0 cur w hg (by rw [hcl, hcs]; omega) ho
    have hrun : (Builtin.copy_ #[T, T] ty #[.slice (some ⟨g, (j + 1) * 3, none⟩) (m - j) dc, .slice (some ⟨g, j * 3, none⟩) (m + 1 - j) sc]).run P w = .ok (goInt ((m - j : Nat) : Int)) (w.setRow g (cur.toList.take ((j + 1) * 3 + 0) ++ xs.drop (j * 3) ++ cur.toList.drop ((j + 1) * 3 + 0 + (xs.drop (j * 3)).length)).toArray) := by
      clear hown htake hsrc
      generalize xs.drop (j * 3) = cs at hcl hmin2 hload ho hst ⊢
      simp only [Builtin.copy_, List.getElem?_toArray, List.getElem?_cons_zero, List.getElem?_cons_succ, Sem.run_bind, run_underlying hu, Builtin.lenOf, Builtin.firstCells, sizeOf, typeInfo, Result.andThen_ok]
      rw [hmin] at hmin2
      have hp : ∀ W : World, Sem.run P program W = .ok P W := fun W => rfl
      simp only [Sem.run_pure, Result.andThen_ok, hp, hi, hmin]
      simp only [hmin2, hload, Result.andThen_ok, hst]
    refine ⟨w.setRow g (cur.toList.take ((j + 1) * 3 + 0) ++ xs.drop (j * 3) ++ cur.toList.drop ((j + 1) * 3 + 0 + (xs.drop (j * 3)).length)).toArray, ?_, ?_, ?_, ?_⟩
    · exact hrun
    · refine ⟨shifted3_length z0 z1 z2 hx hj, .inr ⟨g, cap, _, rfl, hB, setRow_heap _ _ _ _ _ _ hg, hnc, hcm, ?_, ?_⟩⟩
      · simp [hcl, hcs]; omega
      · have e2 : (cur.toList.take ((j + 1) * 3 + 0)) = (xs ++ [z0, z1, z2]).take ((j + 1) * 3) := by
          rw [← htake, List.take_take]; congr 1; omega
        rw [e2]
        unfold shifted3
        rw [List.take_append_of_le_length (by simp [hx]; omega), List.take_of_length_le (by simp [hx]; omega)]
    · exact ⟨rfl, rfl, rfl, by simp [World.setRow], fun k hk => setRow_other w g k _ (by omega)⟩
    · exact fun k hk => setRow_other w g k _ hk
  · obtain rfl : j = m := by omega
    have hn : xs.drop (j * 3) = [] := List.drop_of_length_le (by omega)
    have hmin3 : Nat.min (j + 1 - j) (j - j) = 0 := by simp
    refine ⟨w, ?_, ?_, Below.refl _ _, fun _ _ => rfl⟩
    · have := run_copy_none3 (P := P) w hu hi ty dp (j - j) dc ⟨g, j * 3, none⟩ (j + 1 - j) sc hmin3
      rw [this]; simp
    · unfold shifted3
      rw [hn, List.append_nil, List.take_of_length_le (by simp [hx]; omega)]
      exact hown

theorem World.ownsRow.fits3 {w : World} {base : Nat} {e : TypeId} {size g n cap : Nat} {xs : List Value} (h : w.ownsRow base e size (.slice (some ⟨g, 0, none⟩) n cap) n xs) : n ≤ cap := by
  rcases h.2 with ⟨h', _⟩ | ⟨g', cap', cur, h', _, _, hnc, _⟩
  · simp at h'
  · simp only [Value.slice.injEq, Option.some.injEq, Addr.mk.injEq, and_true, true_and] at h'
    obtain ⟨rfl, rfl⟩ := h'
    exact hnc

theorem World.ownsRow.cellSome3 {w : World} {base : Nat} {e : TypeId} {size g n cap : Nat} {xs : List Value} (h : w.ownsRow base e size (.slice (some ⟨g, 0, none⟩) n cap) n xs) (j : Nat) (hj : j < n * size) : ∃ u, w.cell? ⟨g, j, none⟩ = some u := by
  have h1 := World.ownsRow.cellAt h j hj
  have h2 : j < xs.length := by rw [h.1]; exact hj
  exact ⟨xs[j], by rw [h1, List.getElem?_eq_getElem h2]⟩

/-- a copy whose run is known, as a step of a region that draws -/
theorem step_copy_known3 {P : Program} {ops : Array Oper} {o : Oper} {a : Act} {w : World} {K : Act → World → Prop} {Q : Exit → Act → World → Prop} {E : Prop} (hgd : o.guard = none) (d s : Operand) (T : TypeId)
    (ho : o.op = .call { callee := .builtin .copy, args := #[d, s], argTypes := #[T, T] }) (u v r : Value) (w' : World) (hd : a.eval d = u) (hs : a.eval s = v) (hrun : (Builtin.copy_ #[T, T] o.type #[u, v]).run P w = .ok r w')
    (hK : K (a.put o.dst r) w') : if Region.wanted o (yielded ops a.tmps) = true then Oper.wp P o a w K Q else E := by
  have hw : Region.wanted o (yielded ops a.tmps) = true := by simp [Region.wanted, hgd]
  rw [if_pos hw]
  unfold Oper.wp
  simp [execOp, ho, resolve, invoke, builtin, hd, hs, hrun, Result.andThen]
  exact hK

end Go.Proofs.Ytmdakplaaehmnaa
