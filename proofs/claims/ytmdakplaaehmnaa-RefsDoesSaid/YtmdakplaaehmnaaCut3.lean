/-
  'copy(out[j+1:], out[j:])' on a row of one's own whose elements have three cells, as a step of a region that draws. No program is named here.
  'append(l[:i], l[i+1:]...)' on a row of one's own: what is owned behind it. No program is named here.
-/
import Derived.Test.YtmdakplaaehmnaaRw
import Derived.Laws.CopyRow
import Derived.Laws.IdiomCopy
import Derived.Laws.OwnMore
namespace Go.Proofs.Ytmdakplaaehmnaa
open Go.RowKit

/-- a row with room made at place j -/
def shifted3 (xs : List Value) (z0 z1 z2 : Value) (j : Nat) : List Value := (xs ++ [z0, z1, z2]).take ((j + 1) * 3) ++ xs.drop (j * 3)
theorem shifted3_length {xs : List Value} {m j : Nat} (z0 z1 z2 : Value) (hx : xs.length = m * 3) (hj : j ≤ m) : (shifted3 xs z0 z1 z2 j).length = (m + 1) * 3 := by
  unfold shifted3; simp [hx]; omega
theorem shifted3_set {xs : List Value} {m j : Nat} (z0 z1 z2 u v x : Value) (hx : xs.length = m * 3) (hj : j ≤ m) : (((shifted3 xs z0 z1 z2 j).set (j * 3) u).set (j * 3 + 1) v).set (j * 3 + 2) x = xs.take (j * 3) ++ [u, v, x] ++ xs.drop (j * 3) := by
  have h1 : (xs ++ [z0, z1, z2]).take ((j + 1) * 3) = xs.take (j * 3) ++ ((xs ++ [z0, z1, z2]).drop (j * 3)).take 3 := by
    rw [show (j + 1) * 3 = j * 3 + 3 by omega, List.take_add, List.take_append_of_le_length (by omega)]
  have h2 : (((xs ++ [z0, z1, z2]).drop (j * 3)).take 3).length = 3 := by simp [hx]; omega
  have hl : (xs.take (j * 3)).length = j * 3 := by simp [hx]; omega
  unfold shifted3
  rw [h1]
  generalize ((xs ++ [z0, z1, z2]).drop (j * 3)).take 3 = q at h2 ⊢
  match q, h2 with
  | [q0, q1, q2], _ =>
    generalize xs.take (j * 3) = p at hl ⊢
    generalize xs.drop (j * 3) = r
    rw [List.append_assoc, List.set_append_right _ _ (by omega), List.set_append_right _ _ (by omega), List.set_append_right _ _ (by omega), hl]
    simp

theorem run_copy_none3 {P : Program} (w : World) {T e : TypeId} {i : TypeInfo} (hu : P.underlying T = some (.slice e)) (hi : P.info? e = some i) (ty : TypeId) (dp : Option Addr) (dl dc : Nat) (ad : Addr) (sl sc : Nat) (hm : Nat.min sl dl = 0) :
    (Builtin.copy_ #[T, T] ty #[.slice dp dl dc, .slice (some ad) sl sc]).run P w = .ok (goInt 0) w := by
  have hload : (loadCells ad 0).run P w = .ok #[] w := by
    have := run_loadCells_list (P := P) w ad [] (fun j v h => by simp at h)
    simpa using this
  cases dp with
  | none =>
    simp only [Builtin.copy_, List.getElem?_toArray, List.getElem?_cons_zero, List.getElem?_cons_succ, Sem.run_bind, run_underlying hu, Builtin.lenOf, Builtin.firstCells, sizeOf, typeInfo, Result.andThen_ok]
    simp [hi, hm, hload]
  | some a =>
    simp only [Builtin.copy_, List.getElem?_toArray, List.getElem?_cons_zero, List.getElem?_cons_succ, Sem.run_bind, run_underlying hu, Builtin.lenOf, Builtin.firstCells, sizeOf, typeInfo, Result.andThen_ok]
    simp [hi, hm, hload, storeCells]

theorem own_shift3 {P : Program} {w : World} {base : Nat} {e T ty : TypeId} {i : TypeInfo} (hu : P.underlying T = some (.slice e)) (hi : P.info? e = some i) (hsz : i.size = 3)
    {g m cap j : Nat} {xs : List Value} {z0 z1 z2 : Value} (hx : xs.length = m * 3) (hown : w.ownsRow base e 3 (.slice (some ⟨g, 0, none⟩) (m + 1) cap) (m + 1) (xs ++ [z0, z1, z2])) (h1 : ∀ u ∈ xs, u.oneCell' = true) (hj : j ≤ m)
    (dp : Option Addr) (dc sc : Nat) (hdp : j < m → dp = some ⟨g, (j + 1) * 3, none⟩) :
    ∃ w', (Builtin.copy_ #[T, T] ty #[.slice dp (m - j) dc, .slice (some ⟨g, j * 3, none⟩) (m + 1 - j) sc]).run P w = .ok (goInt ((m - j : Nat) : Int)) w' ∧
      w'.ownsRow base e 3 (.slice (some ⟨g, 0, none⟩) (m + 1) cap) (m + 1) (shifted3 xs z0 z1 z2 j) ∧ Below g w w' ∧ ∀ b, b ≠ g → w'.heap[b]? = w.heap[b]? := by
  rcases hown.2 with ⟨h', _⟩ | ⟨g', cap', cur, h', hB, hg, hnc, hcm, hcs, htake⟩
  · simp at h'
  simp only [Value.slice.injEq, Option.some.injEq, Addr.mk.injEq, and_true, true_and] at h'
  obtain ⟨rfl, rfl⟩ := h'
  have hgl := lt_of_block hg
  have hcl : (xs.drop (j * 3)).length = (m - j) * 3 := by rw [List.length_drop, hx]; omega
  have hmin : Nat.min (m + 1 - j) (m - j) = m - j := Nat.min_eq_right (by omega)
  have hmin2 : Nat.min (m + 1 - j) (m - j) * i.size = (xs.drop (j * 3)).length := by rw [hmin, hsz, hcl]
  have hsrc : ∀ q v, (xs.drop (j * 3))[q]? = some v → w.cell? ((⟨g, j * 3, none⟩ : Addr).add q) = some v := by
    intro q v hq
    have e1 : (⟨g, j * 3, none⟩ : Addr).add q = ⟨g, j * 3 + q, none⟩ := by unfold Addr.add; split <;> simp_all
    rw [List.getElem?_drop] at hq
    have hlt : j * 3 + q < xs.length := by
      rcases Nat.lt_or_ge (j * 3 + q) xs.length with h | h
      · exact h
      · rw [List.getElem?_eq_none h] at hq; cases hq
    rw [e1, World.ownsRow.cellAt hown _ (by omega), List.getElem?_append_left hlt]
    exact hq
  have hload := run_loadCells_list (P := P) w ⟨g, j * 3, none⟩ (xs.drop (j * 3)) hsrc
  have ho : ∀ u ∈ xs.drop (j * 3), u.oneCell' = true := fun u hu => h1 u (List.mem_of_mem_drop hu)
  by_cases h0 : j < m
  · obtain rfl := hdp h0
    have hst := run_storeCells_at P g ((j + 1) * 3) e (xs.drop (j * 3)) 0 cur w hg (by rw [hcl, hcs]; omega) ho
    have hrun : (Builtin.copy_ #[T, T] ty #[.slice (some ⟨g, (j + 1) * 3, none⟩) (m - j) dc, .slice (some ⟨g, j * 3, none⟩) (m + 1 - j) sc]).run P w = .ok (goInt ((m - j : Nat) : Int)) (w.setRow g (cur.toList.take ((j + 1) * 3 + 0) ++ xs.drop (j * 3) ++ cur.toList.drop ((j + 1) * 3 + 0 + (xs.drop (j * 3)).length)).toArray) := by
      clear hown htake hsrc
      generalize xs.drop (j * 3) = cs at hcl hmin2 hload ho hst ⊢
      simp only [Builtin.copy_, List.getElem?_toArray, List.getElem?_cons_zero, List.getElem?_cons_succ, Sem.run_bind, run_underlying hu, Builtin.lenOf, Builtin.firstCells, sizeOf, typeInfo, Result.andThen_ok]
      rw [hmin] at hmin2
      have hp : ∀ W : World, Sem.run P program W = .ok P W := fun W => rfl
      simp only [Sem.run_pure, Result.andThen_ok, hp, hi, hmin]
      simp only [hmin2, hload, Result.andThen_ok, hst]
    refine ⟨w.setRow g (cur.toList.take ((j + 1) * 3 + 0) ++ xs.drop (j * 3) ++ cur.toList.drop ((j + 1) * 3 + 0 + (xs.drop (j * 3)).length)).toArray, ?_, ?_, ?_, ?_⟩
    · exact hrun
    · refine ⟨shifted3_length z0 z1 z2 hx hj, .inr ⟨g, cap, _, rfl, hB, setRow_heap _ _ _ _ _ _ hg, hnc, hcm, ?_, ?_⟩⟩
      · simp [hcl, hcs]; omega
      · have e2 : (cur.toList.take ((j + 1) * 3 + 0)) = (xs ++ [z0, z1, z2]).take ((j + 1) * 3) := by
          rw [← htake, List.take_take]; congr 1; omega
        rw [e2]
        unfold shifted3
        rw [List.take_append_of_le_length (by simp [hx]; omega), List.take_of_length_le (by simp [hx]; omega)]
    · exact ⟨rfl, rfl, rfl, by simp [World.setRow], fun k hk => setRow_other w g k _ (by omega)⟩
    · exact fun k hk => setRow_other w g k _ hk
  · obtain rfl : j = m := by omega
    have hn : xs.drop (j * 3) = [] := List.drop_of_length_le (by omega)
    have hmin3 : Nat.min (j + 1 - j) (j - j) = 0 := by simp
    refine ⟨w, ?_, ?_, Below.refl _ _, fun _ _ => rfl⟩
    · have := run_copy_none3 (P := P) w hu hi ty dp (j - j) dc ⟨g, j * 3, none⟩ (j + 1 - j) sc hmin3
      rw [this]; simp
    · unfold shifted3
      rw [hn, List.append_nil, List.take_of_length_le (by simp [hx]; omega)]
      exact hown

theorem World.ownsRow.fits3 {w : World} {base : Nat} {e : TypeId} {size g n cap : Nat} {xs : List Value} (h : w.ownsRow base e size (.slice (some ⟨g, 0, none⟩) n cap) n xs) : n ≤ cap := by
  rcases h.2 with ⟨h', _⟩ | ⟨g', cap', cur, h', _, _, hnc, _⟩
  · simp at h'
  · simp only [Value.slice.injEq, Option.some.injEq, Addr.mk.injEq, and_true, true_and] at h'
    obtain ⟨rfl, rfl⟩ := h'
    exact hnc

theorem World.ownsRow.cellSome3 {w : World} {base : Nat} {e : TypeId} {size g n cap : Nat} {xs : List Value} (h : w.ownsRow base e size (.slice (some ⟨g, 0, none⟩) n cap) n xs) (j : Nat) (hj : j < n * size) : ∃ u, w.cell? ⟨g, j, none⟩ = some u := by
  have h1 := World.ownsRow.cellAt h j hj
  have h2 : j < xs.length := by rw [h.1]; exact hj
  exact ⟨xs[j], by rw [h1, List.getElem?_eq_getElem h2]⟩

/-- a copy whose run is known, as a step of a region that draws -/
theorem step_copy_known3 {P : Program} {ops : Array Oper} {o : Oper} {a : Act} {w : World} {K : Act → World → Prop} {Q : Exit → Act → World → Prop} {E : Prop} (hgd : o.guard = none) (d s : Operand) (T : TypeId)
    (ho : o.op = .call { callee := .builtin .copy, args := #[d, s], argTypes := #[T, T] }) (u v r : Value) (w' : World) (hd : a.eval d = u) (hs : a.eval s = v) (hrun : (Builtin.copy_ #[T, T] o.type #[u, v]).run P w = .ok r w')
    (hK : K (a.put o.dst r) w') : if Region.wanted o (yielded ops a.tmps) = true then Oper.wp P o a w K Q else E := by
  have hw : Region.wanted o (yielded ops a.tmps) = true := by simp [Region.wanted, hgd]
  rw [if_pos hw]
  unfold Oper.wp
  simp [execOp, ho, resolve, invoke, builtin, hd, hs, hrun, Result.andThen]
  exact hK

end Go.Proofs.Ytmdakplaaehmnaa

namespace Go.Proofs.Ytmdakplaaehmnaa
open Go.RowKit

def setMany : List Value → Nat → List Value → List Value
  | xs, _, [] => xs
  | xs, o, v :: r => setMany (xs.set o v) (o + 1) r
theorem setMany_eq : ∀ (vs xs : List Value) (o : Nat), o + vs.length ≤ xs.length → setMany xs o vs = xs.take o ++ vs ++ xs.drop (o + vs.length)
  | [], xs, o, _ => by simp [setMany]
  | v :: r, xs, o, h => by
    simp only [List.length_cons] at h
    rw [setMany, setMany_eq r (xs.set o v) (o + 1) (by simp; omega)]
    rw [List.take_set, List.drop_set_of_lt (by omega), List.take_add_one, List.getElem?_eq_getElem (by omega)]
    simp only [Option.toList_some, List.length_cons]
    rw [List.set_append_right _ _ (by simp; omega)]
    have e : o - (xs.take o).length = 0 := by simp; omega
    rw [e]
    simp only [List.set_cons_zero, List.append_assoc, List.cons_append, List.nil_append]
    rw [show o + 1 + r.length = o + (r.length + 1) by omega]
theorem ownsRow_setCells {g n cap base size : Nat} {e : TypeId} : ∀ (vs : List Value) (o : Nat) (w : World) (xs : List Value), w.ownsRow base e size (.slice (some ⟨g, 0, none⟩) n cap) n xs → (w.setCells g o vs).ownsRow base e size (.slice (some ⟨g, 0, none⟩) n cap) n (setMany xs o vs)
  | [], _, _, _, h => h
  | v :: r, o, w, xs, h => by
    rw [World.setCells, setMany]
    exact ownsRow_setCells r (o + 1) _ _ (World.ownsRow.stored h o v).1
theorem ownsRow_prefix {w : World} {g n cap base size k : Nat} {e : TypeId} {xs : List Value} (h : w.ownsRow base e size (.slice (some ⟨g, 0, none⟩) n cap) n xs) (hk : k ≤ n) : w.ownsRow base e size (.slice (some ⟨g, 0, none⟩) k cap) k (xs.take (k * size)) := by
  have hl := h.1
  have hle : k * size ≤ n * size := Nat.mul_le_mul_right _ hk
  refine ⟨by rw [List.length_take, hl]; exact Nat.min_eq_left hle, ?_⟩
  rcases h.2 with ⟨h0, _⟩ | ⟨g', cap', cur, hv, hB, hg, hn, h5, h6, h7⟩
  · cases h0
  · injection hv with hv1 hv2 hv3
    injection hv1 with hv1
    injection hv1 with hv1
    subst hv1 hv3
    refine .inr ⟨g, cap, cur, rfl, hB, hg, by omega, h5, h6, ?_⟩
    rw [← h7, List.take_take, Nat.min_eq_left hle]
theorem Below_setCells (g : Nat) : ∀ (vs : List Value) (o : Nat) (w : World) {B : Nat} {a : World}, Below B a w → B ≤ g → Below B a (w.setCells g o vs)
  | [], _, _, _, _, h, _ => h
  | v :: r, o, w, _, _, h, hB => by rw [World.setCells]; exact Below_setCells g r (o + 1) _ (h.setCell hB _) hB
theorem cell_setCells_far (g : Nat) {p : Addr} (hp : p.block ≠ g) : ∀ (vs : List Value) (o : Nat) (w : World), (w.setCells g o vs).cell? p = w.cell? p := fun vs o w =>
  World.cell?_setCells_out g vs o w p (fun e => absurd e hp)
theorem frozen_setCells (g : Nat) {p : Addr} : ∀ (vs : List Value) (o : Nat) (w : World), (w.setCells g o vs).frozen? p = w.frozen? p
  | [], _, _ => rfl
  | v :: r, o, w => by rw [World.setCells, frozen_setCells g r (o + 1)]; exact World.frozen?_setCell _ _ _ _
/-- the rows without the i-th -/
theorem RowsOwn.cut {w : World} {B g n cap i : Nat} {l : List Im.Rw} (h : RowsOwn w B (.slice (some ⟨g, 0, none⟩) n cap) l) (hn : l.length = n) (hi : i < n) :
    RowsOwn (w.setCells g (i * 3) (Im.cells (l.drop (i + 1)))) B (.slice (some ⟨g, 0, none⟩) (n - 1) cap) (l.eraseIdx i) := by
  subst hn
  unfold RowsOwn at h ⊢
  have h1 := ownsRow_prefix (ownsRow_setCells (Im.cells (l.drop (i + 1))) (i * 3) w (Im.cells l) h) (k := l.length - 1) (by omega)
  have hc := Im.cells_length l
  have hd : (Im.cells (l.drop (i + 1))).length = (l.length - (i + 1)) * 3 := by rw [Im.cells_length, List.length_drop]
  rw [setMany_eq _ _ _ (by rw [hd, hc]; omega)] at h1
  rw [List.length_eraseIdx, if_pos hi, List.eraseIdx_eq_take_drop_succ, Im.cells_append, Im.cells_take]
  have e : ((Im.cells l).take (i * 3) ++ Im.cells (l.drop (i + 1)) ++ (Im.cells l).drop (i * 3 + (Im.cells (l.drop (i + 1))).length)).take ((l.length - 1) * 3) = (Im.cells l).take (i * 3) ++ Im.cells (l.drop (i + 1)) := by
    rw [List.take_append_of_le_length (by rw [List.length_append, hd, List.length_take, hc]; omega), List.take_of_length_le (by rw [List.length_append, hd, List.length_take, hc]; omega)]
  rw [e] at h1
  exact h1

end Go.Proofs.Ytmdakplaaehmnaa
