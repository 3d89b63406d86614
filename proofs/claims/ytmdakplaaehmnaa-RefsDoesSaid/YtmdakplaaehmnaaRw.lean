/-
  Slices of rows (two numbers and a text): what they read as, rows of one's own.
-/
import Derived.Test.YtmdakplaaehmnaaRows
import Derived.Test.YtmdakplaaehmnaaKit2
import Derived.Test.YtmdakplaaehmnaaChD
import Derived.Test.YtmdakplaaehmnaaIm
import Derived.Laws.OwnMore
namespace Go.Proofs.Ytmdakplaaehmnaa
open Go.RowKit

/-- the slice (A, n, c) reads as the rows l -/
def RowsIn (w : World) (A : Option Addr) (n c : Nat) (l : List Im.Rw) : Prop :=
  l.length = n ∧ n ≤ c ∧ (0 < n → ∃ g o, A = some ⟨g, o, none⟩ ∧ g < w.heap.size ∧ ∀ i (h : i < l.length), w.cell? ⟨g, o + i * 3, none⟩ = some (.int .i64 l[i].1) ∧ w.cell? ⟨g, o + i * 3 + 1, none⟩ = some (.int .i64 l[i].2.1) ∧ w.cell? ⟨g, o + i * 3 + 2, none⟩ = some (.string (Cm.b l[i].2.2)))
theorem RowsIn.below {w w' : World} {A : Option Addr} {n c : Nat} {l : List Im.Rw} (h : RowsIn w A n c l) (hb : Below w.heap.size w w') : RowsIn w' A n c l := by
  obtain ⟨h1, h2, h3⟩ := h
  refine ⟨h1, h2, fun hn => ?_⟩
  obtain ⟨g, o, hA, hg, hc⟩ := h3 hn
  exact ⟨g, o, hA, Nat.lt_of_lt_of_le hg hb.size, fun i hi => ⟨(hb.cell (p := ⟨g, o + i * 3, none⟩) hg).trans (hc i hi).1, (hb.cell (p := ⟨g, o + i * 3 + 1, none⟩) hg).trans (hc i hi).2.1, (hb.cell (p := ⟨g, o + i * 3 + 2, none⟩) hg).trans (hc i hi).2.2⟩⟩
theorem RowsIn.at {w : World} {A : Option Addr} {n c : Nat} {l : List Im.Rw} (h : RowsIn w A n c l) {i : Nat} (hi : i < n) :
    ∃ g o, A = some ⟨g, o, none⟩ ∧ g < w.heap.size ∧ ∃ hz : i < l.length, w.cell? ⟨g, o + i * 3, none⟩ = some (.int .i64 l[i].1) ∧ w.cell? ⟨g, o + i * 3 + 1, none⟩ = some (.int .i64 l[i].2.1) ∧ w.cell? ⟨g, o + i * 3 + 2, none⟩ = some (.string (Cm.b l[i].2.2)) := by
  obtain ⟨h1, h2, h3⟩ := h
  obtain ⟨g, o, hA, hg, hc⟩ := h3 (by omega)
  exact ⟨g, o, hA, hg, by omega, (hc i (by omega)).1, (hc i (by omega)).2.1, (hc i (by omega)).2.2⟩
theorem RowsIn.nil (w : World) (A : Option Addr) (c : Nat) : RowsIn w A 0 c [] := ⟨rfl, Nat.zero_le _, fun h => absurd h (by omega)⟩

def Im.row (x : Im.Rw) : List Value := [.int .i64 x.1, .int .i64 x.2.1, .string (Cm.b x.2.2)]
def Im.cells (l : List Im.Rw) : List Value := l.flatMap Im.row
theorem Im.cells_cons (x : Im.Rw) (l : List Im.Rw) : Im.cells (x :: l) = .int .i64 x.1 :: .int .i64 x.2.1 :: .string (Cm.b x.2.2) :: Im.cells l := rfl
theorem Im.cells_append (l k : List Im.Rw) : Im.cells (l ++ k) = Im.cells l ++ Im.cells k := by unfold Im.cells; rw [List.flatMap_append]
theorem Im.cells_snoc (l : List Im.Rw) (x : Im.Rw) : Im.cells (l ++ [x]) = Im.cells l ++ [.int .i64 x.1, .int .i64 x.2.1, .string (Cm.b x.2.2)] := by rw [Im.cells_append]; rfl
theorem Im.cells_length (l : List Im.Rw) : (Im.cells l).length = l.length * 3 := by
  induction l with
  | nil => rfl
  | cons x l ih => rw [Im.cells_cons]; simp only [List.length_cons, ih]; omega
theorem Im.cells_take (l : List Im.Rw) : ∀ j, Im.cells (l.take j) = (Im.cells l).take (j * 3) := by
  induction l with
  | nil => intro j; simp [Im.cells]
  | cons x l ih =>
    intro j
    cases j with
    | zero => simp [Im.cells]
    | succ j => rw [List.take_succ_cons, Im.cells_cons, Im.cells_cons, ih j, show (j + 1) * 3 = j * 3 + 1 + 1 + 1 by omega, List.take_succ_cons, List.take_succ_cons, List.take_succ_cons]
theorem Im.cells_drop (l : List Im.Rw) : ∀ j, Im.cells (l.drop j) = (Im.cells l).drop (j * 3) := by
  induction l with
  | nil => intro j; simp [Im.cells]
  | cons x l ih =>
    intro j
    cases j with
    | zero => simp [Im.cells]
    | succ j => rw [List.drop_succ_cons, Im.cells_cons, ih j, show (j + 1) * 3 = j * 3 + 1 + 1 + 1 by omega, List.drop_succ_cons, List.drop_succ_cons, List.drop_succ_cons]
theorem Im.cells_one (l : List Im.Rw) : ∀ u ∈ Im.cells l, u.oneCell' = true := fun u hu => by
  unfold Im.cells at hu
  obtain ⟨x, _, hx⟩ := List.mem_flatMap.1 hu
  unfold Im.row at hx
  simp only [List.mem_cons, List.not_mem_nil, or_false] at hx
  rcases hx with rfl | rfl | rfl <;> rfl
theorem Im.cells_get (l : List Im.Rw) : ∀ (i : Nat) (h : i < l.length), (Im.cells l)[i * 3]? = some (.int .i64 l[i].1) ∧ (Im.cells l)[i * 3 + 1]? = some (.int .i64 l[i].2.1) ∧ (Im.cells l)[i * 3 + 2]? = some (.string (Cm.b l[i].2.2)) := by
  induction l with
  | nil => intro i h; exact absurd h (by simp)
  | cons x l ih =>
    intro i h
    cases i with
    | zero => exact ⟨rfl, rfl, rfl⟩
    | succ i =>
      have h' := ih i (by simpa using h)
      rw [Im.cells_cons, show (i + 1) * 3 = i * 3 + 1 + 1 + 1 by omega]
      simp only [List.getElem?_cons_succ, List.getElem_cons_succ]
      exact h'
theorem Im.cells_set (l : List Im.Rw) (x : Im.Rw) : ∀ j, Im.cells (l.set j x) = (((Im.cells l).set (j * 3) (.int .i64 x.1)).set (j * 3 + 1) (.int .i64 x.2.1)).set (j * 3 + 2) (.string (Cm.b x.2.2)) := by
  induction l with
  | nil => intro j; simp [Im.cells]
  | cons y l ih =>
    intro j
    cases j with
    | zero => simp [Im.cells_cons]
    | succ j => rw [List.set_cons_succ, Im.cells_cons, ih j, Im.cells_cons, show (j + 1) * 3 = j * 3 + 1 + 1 + 1 by omega]; simp

/-- a row of rows of one's own -/
def RowsOwn (w : World) (B : Nat) (v : Value) (l : List Im.Rw) : Prop := w.ownsRow B 37 3 v l.length (Im.cells l)
theorem RowsOwn.nil (w : World) (B : Nat) : RowsOwn w B (.slice none 0 0) [] := World.ownsRow_nil _ _ _ _
theorem RowsOwn.below {w w' : World} {B : Nat} {v : Value} {l : List Im.Rw} (h : RowsOwn w B v l) (hb : Below w.heap.size w w') : RowsOwn w' B v l := own_below h hb
theorem RowsOwn.mono {w : World} {B B' : Nat} {v : Value} {l : List Im.Rw} (h : RowsOwn w B v l) (hB : B' ≤ B) : RowsOwn w B' v l := own_mono h hB
theorem RowsOwn.setCell {w : World} {B : Nat} {v : Value} {l : List Im.Rw} (h : RowsOwn w B v l) {a : Addr} (ha : a.block < B) (u : Value) : RowsOwn (w.setCell a u) B v l :=
  ownsRow_setCell_other h (fun e => by have := (World.ownsRow.lt h _ e).1; omega) u
theorem RowsOwn.alloc {w : World} {B : Nat} {v : Value} {l : List Im.Rw} (h : RowsOwn w B v l) (o : Obj) : RowsOwn (w.alloc o) B v l := World.ownsRow.alloc h _
/-- what an owned value looks like, and how it reads -/
theorem own_rows {w : World} {B : Nat} {v : Value} {l : List Im.Rw} (h : RowsOwn w B v l) : ∃ A c, v = .slice A l.length c ∧ RowsIn w A l.length c l := by
  unfold RowsOwn at h
  rcases h.2 with ⟨rfl, h0⟩ | ⟨g, cap, cur, hv, _, hg, hn, _⟩
  · refine ⟨none, 0, by rw [h0], rfl, by omega, fun hn => absurd hn (by omega)⟩
  · subst hv
    refine ⟨some ⟨g, 0, none⟩, cap, rfl, rfl, hn, fun _ => ⟨g, 0, rfl, lt_of_block hg, fun i hi => ?_⟩⟩
    have hc := Im.cells_get l i hi
    have h1 := h.cells rfl (i * 3) _ hc.1
    have h2 := h.cells rfl (i * 3 + 1) _ hc.2.1
    have h3 := h.cells rfl (i * 3 + 2) _ hc.2.2
    have e1 : ∀ k, (⟨g, 0, none⟩ : Addr).add k = ⟨g, 0 + k, none⟩ := fun k => by unfold Addr.add; split <;> simp_all
    rw [e1] at h1 h2 h3
    exact ⟨h1, by rw [Nat.add_assoc]; exact h2, by rw [Nat.add_assoc]; exact h3⟩
theorem RowsOwn.rd {w : World} {B g c n : Nat} {l : List Im.Rw} (h : RowsOwn w B (.slice (some ⟨g, 0, none⟩) n c) l) (hn : l.length = n) {j : Nat} (hj : j < l.length) :
    (w.cell? ⟨g, j * 3, none⟩ = some (.int .i64 l[j].1) ∧ w.cell? ⟨g, j * 3 + 1, none⟩ = some (.int .i64 l[j].2.1) ∧ w.cell? ⟨g, j * 3 + 2, none⟩ = some (.string (Cm.b l[j].2.2))) ∧ ∀ k, w.frozen? ⟨g, k, none⟩ = false := by
  subst hn
  unfold RowsOwn at h
  have hc := Im.cells_get l j hj
  refine ⟨⟨?_, ?_, ?_⟩, fun k => World.ownsRow.frozenAt h _⟩
  · rw [World.ownsRow.cellAt h _ (by omega)]; exact hc.1
  · rw [World.ownsRow.cellAt h _ (by omega)]; exact hc.2.1
  · rw [World.ownsRow.cellAt h _ (by omega)]; exact hc.2.2
theorem cell_three_new (w : World) (x y z : Value) (t : TypeId) : ∀ j u, [x, y, z][j]? = some u → (w.alloc (.cells #[x, y, z] t)).cell? ((⟨w.heap.size, 0, none⟩ : Addr).add j) = some u := by
  intro j u hj
  have e1 : ∀ k, (⟨w.heap.size, 0, none⟩ : Addr).add k = ⟨w.heap.size, 0 + k, none⟩ := fun k => by unfold Addr.add; split <;> simp_all
  rw [e1, cell_new_at _ _ _ _ rfl, Nat.zero_add]
  simpa using hj
theorem info_row : (Try.prog.info? 37).map (fun i => (i.zero, i.size, i.bytes)) = some (some (.agg #[.int .i64 0, .int .i64 0, .string ByteArray.empty]), 3, 32) := by kernel_rfl

end Go.Proofs.Ytmdakplaaehmnaa
